/- Labels of the call's own: a list with marks behind it, and whether it was kept. -/
import Derived.Test.YthclmkmajlinhabCov1
import Derived.Test.YthclmkmajlinhabReg
import Derived.OwnWalk
import Derived.Maps.AppendAt
import Derived.Laws.AppendOwnNone
namespace Go.Proofs.Ythclmkmajlinhab
open Go.RowKit

theorem hide_it' {p : Prop} (h : p) : Hid p := h
def encL (z : Nat) : Value := .int .u64 (z : Int)
theorem at0_get' {zs : List Nat} {i : Nat} (hi : i < zs.length) : zs[i] = at0 zs i := by
  unfold at0; rw [List.getD_eq_getElem?_getD, List.getElem?_eq_getElem hi]; rfl
theorem mapL_at {zs : List Nat} {i : Nat} (h : i < zs.length) : (zs.map encL)[i]? = some (encL (at0 zs i)) := by
  rw [List.getElem?_map, List.getElem?_eq_getElem h, at0_get' h]; rfl
/-- v is a slice of the call's own that holds the labels zs. -/
def OwnL (w : World) (base : Nat) (v : Value) (zs : List Nat) : Prop := w.ownsRow base 36 1 v zs.length (zs.map encL)
theorem OwnL.row {w : World} {base : Nat} {v : Value} {zs : List Nat} (h : OwnL w base v zs) : ∃ a cap, v = .slice a zs.length cap ∧ Row w a zs ∧ zs.length ≤ cap ∧ cap ≤ maxLen ∧ (a = none → zs.length = 0 ∧ cap = 0) := by
  rcases h.2 with ⟨rfl, h0⟩ | ⟨g, cap, cur, rfl, _, hh, hn, hm, _, ht⟩
  · exact ⟨none, 0, by rw [h0], .inl h0, by omega, by simp [maxLen], fun _ => ⟨h0, rfl⟩⟩
  · refine ⟨_, cap, rfl, .inr ⟨g, 0, rfl, (Array.getElem?_eq_some_iff.1 hh).1, fun i hi => ?_⟩, hn, hm, fun e => by cases e⟩
    rw [Nat.zero_add, cell_of_row _ _ _ _ _ _ hh]
    have h3 : (cur.toList.take (zs.length * 1))[i]? = (zs.map encL)[i]? := by rw [ht]
    rw [List.getElem?_take_of_lt (by omega)] at h3
    rw [← Array.getElem?_toList, h3]
    exact mapL_at hi
theorem OwnL.ge {w : World} {base : Nat} {v : Value} {zs : List Nat} (h : OwnL w base v zs) {j : Nat} (hj : v.ownBlock = some j) : base ≤ j := (h.lt j hj).1
theorem infoL2 : (Try.prog.info? 36).map (fun i => (i.zero, i.size, i.bytes)) = some (some (.int .u64 0), 1, 8) := by kernel_rfl

theorem wpList_append_rowL (w : World) {ops : Array Oper} {rest : List Oper} {o : Oper} {act : Act} {Q : Exit → Act → World → Prop} (hgd : o.guard = none) (s x : Operand)
    (ho : o.op = .call { callee := .builtin .append, args := #[s, x], argTypes := #[22, 22] })
    (base : Nat) (v : Value) (xs : List Nat) (hs : act.eval s = v) (hown : OwnL w base v xs) (a : Option Addr) (cap : Nat) (zs : List Nat) (hx : act.eval x = .slice a zs.length cap) (hr : Row w a zs) (hnil : a = none → zs.length = 0 ∧ cap = 0)
    (hl : (xs.length + zs.length) * 8 ≤ 140737488355328) (hbase : base ≤ w.heap.size)
    (h : ∀ v' w', OwnL w' base v' (xs ++ zs) → w.grownBy w' v.ownBlock → wpList Try.prog ops Q rest (act.put o.dst v') w') :
    wpList Try.prog ops Q (o :: rest) act w := by
  obtain ⟨i0, hi, hz0, hz1, hz2⟩ := info_parts infoL2
  cases a with
  | none =>
    obtain ⟨h1, h2⟩ := hnil rfl
    have hzs : zs = [] := List.eq_nil_of_length_eq_zero h1
    subst hzs
    subst h2
    refine wpList_append_own_none hgd s x 22 ho base 36 i0 1 Try.underlying22 hi v xs.length (xs.map encL) hs hown hx ?_
    exact h v w (by rw [List.append_nil]; exact hown) ⟨rfl, rfl, rfl, Nat.le_refl _, fun _ _ _ => rfl⟩
  | some ad =>
    have hnews : ∀ j u, (zs.map encL)[j]? = some u → w.cell? (ad.add j) = some u := fun j u hu => by
      have hj : j < zs.length := by have := (List.getElem?_eq_some_iff.1 hu).1; simpa using this
      obtain ⟨b, o, e, hlt, hc⟩ := hr.here hj
      cases e
      rw [Addr.add_lit, hc j hj]
      exact (mapL_at hj).symm.trans hu
    have hone : ∀ u ∈ zs.map encL, u.oneCell' = true := fun u hu => by
      obtain ⟨z, _, rfl⟩ := List.mem_map.1 hu
      rfl
    refine wpList_append_own_at _ hgd s x 22 ho base 36 i0 (.int .u64 0) 1 8 Try.underlying22 hi hz0 hz1 hz2 rfl (by omega) v xs.length (xs.map encL) hs hown ad zs.length cap (zs.map encL) hx (by simp) hnews hone (by unfold maxLen; omega) (by omega) hbase ?_
    intro v4 w4 hown4 hgrow4 hnil4 hat4
    exact h v4 w4 (by unfold OwnL; simpa using hown4) hgrow4

theorem wpList_append_oneL (w : World) {ops : Array Oper} {rest : List Oper} {o : Oper} {act : Act} {Q : Exit → Act → World → Prop} (hgd : o.guard = none) (s x : Operand)
    (ho : o.op = .call { callee := .builtin .append, args := #[s, x], argTypes := #[22, 22] })
    (base : Nat) (v : Value) (xs : List Nat) (hs : act.eval s = v) (hown : OwnL w base v xs) (z : Nat)
    (hx : act.eval x = .slice (some ⟨w.heap.size, 0, none⟩) 1 1)
    (hl : (xs.length + 1) * 8 ≤ 140737488355328) (hbase : base ≤ w.heap.size)
    (h : ∀ v' w', OwnL w' base v' (xs ++ [z]) → (w.alloc (.cells #[.int .u64 (z : Int)] 36)).grownBy w' v.ownBlock → wpList Try.prog ops Q rest (act.put o.dst v') w') :
    wpList Try.prog ops Q (o :: rest) act (w.alloc (.cells #[.int .u64 (z : Int)] 36)) := by
  obtain ⟨i0, hi, hz0, hz1, hz2⟩ := info_parts infoL2
  have hone : ∀ u ∈ [Value.int .u64 (z : Int)], u.oneCell' = true := by simp [Value.oneCell']
  refine wpList_append_own_at _ hgd s x 22 ho base 36 i0 (.int .u64 0) 1 8 Try.underlying22 hi hz0 hz1 hz2 rfl (by omega) v xs.length (xs.map encL) hs (hown.alloc _) ⟨w.heap.size, 0, none⟩ 1 1 [.int .u64 (z : Int)] hx rfl (cell_one_new _ _ _) hone (by unfold maxLen; omega) (by omega) (by simp; omega) ?_
  intro v4 w4 hown4 hgrow4 hnil4 hat4
  exact h v4 w4 (by unfold OwnL; simpa [encL] using hown4) hgrow4

theorem i64_in {n : Int} (h1 : -9223372036854775808 ≤ n) (h2 : n ≤ 9223372036854775807) : IntKind.i64.wrap n = n := by
  simp [IntKind.wrap, IntKind.bits, IntKind.signed]
  omega

/-- The marks behind a list. -/
def marks (k : Nat) : List Nat := (List.range k).map fun i => 9000 + i
theorem marks_succ (k : Nat) : marks (k + 1) = marks k ++ [9000 + k] := by simp [marks, List.range_succ]
theorem marks_len (k : Nat) : (marks k).length = k := by simp [marks]
theorem marks_at {k i : Nat} (h : i < k) : at0 (marks k) i = 9000 + i := by
  rw [← at0_get' (by rw [marks_len]; exact h)]; simp [marks]

set_option maxRecDepth 100000 in
set_option maxHeartbeats 400000 in
theorem room_any (a : Option Addr) (cap : Nat) (zs : List Nat) (w : World) (hr : Row w a zs) (hl : (zs.length + 70) * 8 ≤ 140737488355328) (hnil : a = none → zs.length = 0 ∧ cap = 0) :
    Calls Try.prog 5 #[.slice a zs.length cap] w fun e w' => (∃ r, e = .returned r ∧ OwnL w' w.heap.size r (zs ++ marks 70)) ∧ Below w.heap.size w w' := by
  have hn0 : OwnL w w.heap.size (.slice none 0 0) [] := World.ownsRow_nil _ _ _ _
  go_enter Try.func5, Try.ntmps5
  go_wp2_with (at_builtin; refine wpList_append_rowL _ rfl _ _ rfl w.heap.size _ [] rfl hn0 a cap zs rfl hr hnil (by simp; omega) (Nat.le_refl _) ?_; intro v1 w1 hown1 hg1)
  have hb1 : Below w.heap.size w w1 := (Below.refl _ _).grown hg1 (Nat.le_refl _) (fun j e => by cases e)
  rw [List.nil_append] at hown1
  clear hr hg1 hnil hn0
  go_loopw [3, 4] (fun r i wr => ∃ k : Nat, k ≤ 70 ∧ i = .int .i64 (k : Int) ∧ OwnL wr w.heap.size r (zs ++ marks k) ∧ Below w.heap.size w wr) (fun _ i _ => 70 - (intOf i).toNat)
  case atStart => exact ⟨0, by omega, rfl, by simpa [marks] using hown1, hb1⟩
  case round =>
    obtain ⟨k, hk, rfl, hown, hbl⟩ := hrel
    clear hown1 hb1
    by_cases hlt : k < 70
    · have hbs := hbl.size
      have hd : decide ((k : Int) < 70) = true := by simp; omega
      have hlen : ((zs ++ marks k).length + 1) * 8 ≤ 140737488355328 := by rw [List.length_append, marks_len]; omega
      have hw : IntKind.u64.wrap (9000 + (k : Int)) = ((9000 + k : Nat) : Int) := by simp [IntKind.wrap, IntKind.bits, IntKind.signed]; omega
      have HM := hide_it' (marks_succ k)
      go_wp2_with (at_builtin; refine wpList_append_oneL _ rfl _ _ rfl w.heap.size _ _ rfl hown (9000 + k) rfl hlen hbs ?_; intro v4 w4 hown4 hg4)
      go_roundw
      case rel => exact ⟨k + 1, by omega, by go_num, by rw [HM.out, ← List.append_assoc]; exact hown4, (hbl.alloc hbs _).grown hg4 (by simp; omega) (fun j e => hown.ge e)⟩
      case measure => simp [intOf]; omega
    · have hk8 : k = 70 := by omega
      have hd : decide ((k : Int) < 70) = false := by simp; omega
      rw [hk8] at hown
      clear hk8
      go_wp2_with fail
      go_ret
      exact ⟨⟨_, rfl, hown⟩, hbl⟩

set_option maxRecDepth 100000 in
set_option maxHeartbeats 1000000 in
theorem kept_any (a b : Option Addr) (ca cb : Nat) (F zs : List Nat) (w : World) (hF : Row w a F) (hr : Row w b zs) (hl : F.length ≤ 140737488355328) (_hfl : Hid (F.length = zs.length + 70)) (h1 : ∀ i, i < zs.length → at0 F i = at0 zs i) (h2 : ∀ i, zs.length ≤ i → i < F.length → at0 F i = 9000 + (i - zs.length)) :
    Calls Try.prog 10 #[.slice a F.length ca, .slice b zs.length cb] w fun e w' => e = .returned (.bool true) ∧ Below w.heap.size w w' := by
  go_enter Try.func10, Try.ntmps10
  go_wp2_with fail
  go_loopw [5] (fun i wr => ∃ k q : Nat, k ≤ F.length ∧ i = .int .i64 (k : Int) ∧ wr = w.drewN q) (fun i _ => F.length - (intOf i).toNat)
  case atStart => exact ⟨0, 0, by omega, rfl, rfl⟩
  case round =>
    obtain ⟨k, q, hk, rfl, hwr⟩ := hrel
    have hbl : Below w.heap.size w wr := by rw [hwr]; exact below_drewN (Below.refl _ _) _
    have HW := hide_it' hwr
    clear hwr
    by_cases hlt : k < F.length
    · obtain ⟨bf, of, rfl, _, hcf⟩ := (hF.below hbl).here hlt
      have hck := hcf k hlt
      have hi0 : (k : Int) < (F.length : Int) := by omega
      by_cases hz : k < zs.length
      · obtain ⟨bz, oz, rfl, _, hcz⟩ := (hr.below hbl).here hz
        have hcz' := hcz k hz
        rw [h1 k hz] at hck
        have hi1 : (k : Int) < (zs.length : Int) := by omega
        have hd1 : decide ((k : Int) < (zs.length : Int)) = true := by simp; omega
        have hd2 : decide (zs.length ≤ k) = false := by simp; omega
        generalize at0 zs k = x at *
        have hxx : ((x : Int) == (x : Int)) = true := by simp
        clear hcf hcz h1 h2 hbl
        go_wp2_with fail
        refine wp_region_held_drew (S := (fun w' => w'.cell? ⟨bf, of + k, none⟩ = some (.int .u64 (x : Int)) ∧ w'.cell? ⟨bz, oz + k, none⟩ = some (.int .u64 (x : Int)))) (by kernel_rfl) ?_ (fun hHeld => ?_)
        · exact ⟨hck, hcz'⟩
        refine take_on (i := 0) (v := ?_) rfl rfl (by kernel_rfl) (by kernel_rfl) (by kernel_rfl) (fun _ _ _ h => h) rfl ?_ hHeld ?_
        rotate_left
        · (intro wq hSq; obtain ⟨hq0, hq1⟩ := hSq; go_simp <;> first | with_reducible rfl | rfl)
        simp only [Act.put, List.setIfInBounds_toArray, List.set_cons_zero, List.set_cons_succ]
        refine take_on (i := 1) (v := ?_) rfl rfl (by kernel_rfl) (by kernel_rfl) (by kernel_rfl) (fun _ _ _ h => h) rfl ?_ hHeld ?_
        rotate_left
        · (intro wq hSq; obtain ⟨hq0, hq1⟩ := hSq; go_simp <;> first | with_reducible rfl | rfl)
        simp only [Act.put, List.setIfInBounds_toArray, List.set_cons_zero, List.set_cons_succ]
        refine take_on (i := 2) (v := ?_) rfl rfl (by kernel_rfl) (by kernel_rfl) (by kernel_rfl) (fun _ _ _ h => h) rfl ?_ hHeld ?_
        rotate_left
        · (intro wq hSq; obtain ⟨hq0, hq1⟩ := hSq; go_simp <;> first | with_reducible rfl | rfl)
        simp only [Act.put, List.setIfInBounds_toArray, List.set_cons_zero, List.set_cons_succ]
        refine take_on (i := 3) (v := ?_) rfl rfl (by kernel_rfl) (by kernel_rfl) (by kernel_rfl) (fun _ _ _ h => h) rfl ?_ hHeld ?_
        rotate_left
        · (intro wq hSq; obtain ⟨hq0, hq1⟩ := hSq; go_simp <;> first | with_reducible rfl | rfl)
        simp only [Act.put, List.setIfInBounds_toArray, List.set_cons_zero, List.set_cons_succ]
        refine take_on (i := 4) (v := ?_) rfl rfl (by kernel_rfl) (by kernel_rfl) (by kernel_rfl) (fun _ _ _ h => h) rfl ?_ hHeld ?_
        rotate_left
        · (intro wq hSq; obtain ⟨hq0, hq1⟩ := hSq; go_simp <;> first | with_reducible rfl | rfl)
        simp only [Act.put, List.setIfInBounds_toArray, List.set_cons_zero, List.set_cons_succ]
        refine take_on (i := 5) (v := ?_) rfl rfl (by kernel_rfl) (by kernel_rfl) (by kernel_rfl) (fun _ _ _ h => h) rfl ?_ hHeld ?_
        rotate_left
        · (intro wq hSq; obtain ⟨hq0, hq1⟩ := hSq; go_simp <;> first | with_reducible rfl | rfl)
        simp only [Act.put, List.setIfInBounds_toArray, List.set_cons_zero, List.set_cons_succ]
        refine take_on (i := 6) (v := ?_) rfl rfl (by kernel_rfl) (by kernel_rfl) (by kernel_rfl) (fun _ _ _ h => h) rfl ?_ hHeld ?_
        rotate_left
        · (intro wq hSq; obtain ⟨hq0, hq1⟩ := hSq; go_simp <;> first | with_reducible rfl | rfl)
        simp only [Act.put, List.setIfInBounds_toArray, List.set_cons_zero, List.set_cons_succ]
        refine take_on (i := 7) (v := ?_) rfl rfl (by kernel_rfl) (by kernel_rfl) (by kernel_rfl) (fun _ _ _ h => h) rfl ?_ hHeld ?_
        rotate_left
        · (intro wq hSq; obtain ⟨hq0, hq1⟩ := hSq; go_simp <;> first | with_reducible rfl | rfl)
        simp only [Act.put, List.setIfInBounds_toArray, List.set_cons_zero, List.set_cons_succ]
        refine take_on (i := 8) (v := ?_) rfl rfl (by kernel_rfl) (by kernel_rfl) (by kernel_rfl) (fun _ _ _ h => h) rfl ?_ hHeld ?_
        rotate_left
        · (intro wq hSq; obtain ⟨hq0, hq1⟩ := hSq; go_simp <;> first | with_reducible rfl | rfl)
        simp only [Act.put, List.setIfInBounds_toArray, List.set_cons_zero, List.set_cons_succ]
        refine take_on (i := 9) (v := ?_) rfl rfl (by kernel_rfl) (by kernel_rfl) (by kernel_rfl) (fun _ _ _ h => h) rfl ?_ hHeld ?_
        rotate_left
        · (intro wq hSq; obtain ⟨hq0, hq1⟩ := hSq; go_simp <;> first | with_reducible rfl | rfl)
        simp only [Act.put, List.setIfInBounds_toArray, List.set_cons_zero, List.set_cons_succ]
        refine take_on (i := 10) (v := ?_) rfl rfl (by kernel_rfl) (by kernel_rfl) (by kernel_rfl) (fun _ _ _ h => h) rfl ?_ hHeld ?_
        rotate_left
        · (intro wq hSq; obtain ⟨hq0, hq1⟩ := hSq; go_simp <;> first | with_reducible rfl | rfl)
        simp only [Act.put, List.setIfInBounds_toArray, List.set_cons_zero, List.set_cons_succ]
        refine take_on (i := 11) (v := ?_) rfl rfl (by kernel_rfl) (by kernel_rfl) (by kernel_rfl) (fun _ _ _ h => h) rfl ?_ hHeld ?_
        rotate_left
        · (intro wq hSq; obtain ⟨hq0, hq1⟩ := hSq; go_simp <;> first | with_reducible rfl | rfl)
        simp only [Act.put, List.setIfInBounds_toArray, List.set_cons_zero, List.set_cons_succ]
        refine take_on (i := 12) (v := ?_) rfl rfl (by kernel_rfl) (by kernel_rfl) (by kernel_rfl) (fun _ _ _ h => h) rfl ?_ hHeld ?_
        rotate_left
        · (intro wq hSq; obtain ⟨hq0, hq1⟩ := hSq; go_simp <;> first | with_reducible rfl | rfl)
        simp only [Act.put, List.setIfInBounds_toArray, List.set_cons_zero, List.set_cons_succ]
        refine take_on (i := 13) (v := ?_) rfl rfl (by kernel_rfl) (by kernel_rfl) (by kernel_rfl) (fun _ _ _ h => h) rfl ?_ hHeld ?_
        rotate_left
        · (intro wq hSq; obtain ⟨hq0, hq1⟩ := hSq; go_simp <;> first | with_reducible rfl | rfl)
        simp only [Act.put, List.setIfInBounds_toArray, List.set_cons_zero, List.set_cons_succ]
        refine take_on (i := 14) (v := ?_) rfl rfl (by kernel_rfl) (by kernel_rfl) (by kernel_rfl) (fun _ _ _ h => h) rfl ?_ hHeld ?_
        rotate_left
        · (intro wq hSq; obtain ⟨hq0, hq1⟩ := hSq; go_simp <;> first | with_reducible rfl | rfl)
        simp only [Act.put, List.setIfInBounds_toArray, List.set_cons_zero, List.set_cons_succ]
        refine take_on (i := 15) (v := ?_) rfl rfl (by kernel_rfl) (by kernel_rfl) (by kernel_rfl) (fun _ _ _ h => h) rfl ?_ hHeld ?_
        rotate_left
        · (intro wq hSq; obtain ⟨hq0, hq1⟩ := hSq; go_simp <;> first | with_reducible rfl | rfl)
        simp only [Act.put, List.setIfInBounds_toArray, List.set_cons_zero, List.set_cons_succ]
        refine take_on (i := 16) (v := ?_) rfl rfl (by kernel_rfl) (by kernel_rfl) (by kernel_rfl) (fun _ _ _ h => h) rfl ?_ hHeld ?_
        rotate_left
        · (intro wq hSq; obtain ⟨hq0, hq1⟩ := hSq; go_simp <;> first | with_reducible rfl | rfl)
        simp only [Act.put, List.setIfInBounds_toArray, List.set_cons_zero, List.set_cons_succ]
        refine take_on (i := 17) (v := ?_) rfl rfl (by kernel_rfl) (by kernel_rfl) (by kernel_rfl) (fun _ _ _ h => h) rfl ?_ hHeld ?_
        rotate_left
        · (intro wq hSq; obtain ⟨hq0, hq1⟩ := hSq; go_simp <;> first | with_reducible rfl | rfl)
        simp only [Act.put, List.setIfInBounds_toArray, List.set_cons_zero, List.set_cons_succ]
        refine take_on (i := 18) (v := ?_) rfl rfl (by kernel_rfl) (by kernel_rfl) (by kernel_rfl) (fun _ _ _ h => h) rfl ?_ hHeld ?_
        rotate_left
        · (intro wq hSq; obtain ⟨hq0, hq1⟩ := hSq; go_simp <;> first | with_reducible rfl | rfl)
        simp only [Act.put, List.setIfInBounds_toArray, List.set_cons_zero, List.set_cons_succ]
        refine take_on (i := 19) (v := ?_) rfl rfl (by kernel_rfl) (by kernel_rfl) (by kernel_rfl) (fun _ _ _ h => h) rfl ?_ hHeld ?_
        rotate_left
        · (intro wq hSq; obtain ⟨hq0, hq1⟩ := hSq; go_simp <;> first | with_reducible rfl | rfl)
        simp only [Act.put, List.setIfInBounds_toArray, List.set_cons_zero, List.set_cons_succ]
        refine take_on (i := 20) (v := ?_) rfl rfl (by kernel_rfl) (by kernel_rfl) (by kernel_rfl) (fun _ _ _ h => h) rfl ?_ hHeld ?_
        rotate_left
        · (intro wq hSq; obtain ⟨hq0, hq1⟩ := hSq; go_simp <;> first | with_reducible rfl | rfl)
        simp only [Act.put, List.setIfInBounds_toArray, List.set_cons_zero, List.set_cons_succ]
        refine take_off (i := 21) rfl rfl (by kernel_rfl) (by kernel_rfl) (by kernel_rfl) (fun _ _ _ h => h) rfl hHeld ?_
        simp only [Act.put, List.setIfInBounds_toArray, List.set_cons_zero, List.set_cons_succ]
        refine take_off (i := 22) rfl rfl (by kernel_rfl) (by kernel_rfl) (by kernel_rfl) (fun _ _ _ h => h) rfl hHeld ?_
        simp only [Act.put, List.setIfInBounds_toArray, List.set_cons_zero, List.set_cons_succ]
        refine take_off (i := 23) rfl rfl (by kernel_rfl) (by kernel_rfl) (by kernel_rfl) (fun _ _ _ h => h) rfl hHeld ?_
        simp only [Act.put, List.setIfInBounds_toArray, List.set_cons_zero, List.set_cons_succ]
        refine take_off (i := 24) rfl rfl (by kernel_rfl) (by kernel_rfl) (by kernel_rfl) (fun _ _ _ h => h) rfl hHeld ?_
        simp only [Act.put, List.setIfInBounds_toArray, List.set_cons_zero, List.set_cons_succ]
        refine take_off (i := 25) rfl rfl (by kernel_rfl) (by kernel_rfl) (by kernel_rfl) (fun _ _ _ h => h) rfl hHeld ?_
        simp only [Act.put, List.setIfInBounds_toArray, List.set_cons_zero, List.set_cons_succ]
        refine take_off (i := 26) rfl rfl (by kernel_rfl) (by kernel_rfl) (by kernel_rfl) (fun _ _ _ h => h) rfl hHeld ?_
        simp only [Act.put, List.setIfInBounds_toArray, List.set_cons_zero, List.set_cons_succ]
        refine take_off (i := 27) rfl rfl (by kernel_rfl) (by kernel_rfl) (by kernel_rfl) (fun _ _ _ h => h) rfl hHeld ?_
        simp only [Act.put, List.setIfInBounds_toArray, List.set_cons_zero, List.set_cons_succ]
        refine take_off (i := 28) rfl rfl (by kernel_rfl) (by kernel_rfl) (by kernel_rfl) (fun _ _ _ h => h) rfl hHeld ?_
        simp only [Act.put, List.setIfInBounds_toArray, List.set_cons_zero, List.set_cons_succ]
        refine take_off (i := 29) rfl rfl (by kernel_rfl) (by kernel_rfl) (by kernel_rfl) (fun _ _ _ h => h) rfl hHeld ?_
        simp only [Act.put, List.setIfInBounds_toArray, List.set_cons_zero, List.set_cons_succ]
        refine take_off (i := 30) rfl rfl (by kernel_rfl) (by kernel_rfl) (by kernel_rfl) (fun _ _ _ h => h) rfl hHeld ?_
        simp only [Act.put, List.setIfInBounds_toArray, List.set_cons_zero, List.set_cons_succ]
        refine take_off (i := 31) rfl rfl (by kernel_rfl) (by kernel_rfl) (by kernel_rfl) (fun _ _ _ h => h) rfl hHeld ?_
        simp only [Act.put, List.setIfInBounds_toArray, List.set_cons_zero, List.set_cons_succ]
        refine take_on (i := 32) (v := ?_) rfl rfl (by kernel_rfl) (by kernel_rfl) (by kernel_rfl) (fun _ _ _ h => h) rfl ?_ hHeld ?_
        rotate_left
        · (intro wq hSq; obtain ⟨hq0, hq1⟩ := hSq; go_simp <;> first | with_reducible rfl | rfl)
        simp only [Act.put, List.setIfInBounds_toArray, List.set_cons_zero, List.set_cons_succ]
        refine take_on (i := 33) (v := ?_) rfl rfl (by kernel_rfl) (by kernel_rfl) (by kernel_rfl) (fun _ _ _ h => h) rfl ?_ hHeld ?_
        rotate_left
        · (intro wq hSq; obtain ⟨hq0, hq1⟩ := hSq; go_simp <;> first | with_reducible rfl | rfl)
        simp only [Act.put, List.setIfInBounds_toArray, List.set_cons_zero, List.set_cons_succ]
        refine wpAnyH_done (by kernel_rfl) ?_ _
        go_wp2_with fail
        go_roundw
        case rel => exact ⟨k + 1, q + 1, by omega, by go_num, by rw [HW.out]; rfl⟩
        case measure => simp [intOf]; omega
      · rw [h2 k (by omega) hlt] at hck
        have hd1 : decide ((k : Int) < (zs.length : Int)) = false := by simp; omega
        have hd2 : decide (zs.length ≤ k) = true := by simp; omega
        have hw : IntKind.u64.wrap (9000 + (k : Int) - (zs.length : Int)) = ((9000 + (k - zs.length) : Nat) : Int) := by simp [IntKind.wrap, IntKind.bits, IntKind.signed]; omega
        have hw1 : IntKind.i64.wrap (9000 + (k : Int)) = 9000 + (k : Int) := i64_in (by omega) (by omega)
        have hw2 : IntKind.i64.wrap (9000 + (k : Int) - (zs.length : Int)) = 9000 + (k : Int) - (zs.length : Int) := i64_in (by omega) (by omega)
        generalize 9000 + (k - zs.length) = x at *
        have hxx : ((x : Int) == (x : Int)) = true := by simp
        clear hcf h1 h2 hbl
        go_wp2_with fail
        refine wp_region_held_drew (S := (fun w' => w'.cell? ⟨bf, of + k, none⟩ = some (.int .u64 (x : Int)))) (by kernel_rfl) ?_ (fun hHeld => ?_)
        · exact hck
        refine take_on (i := 0) (v := ?_) rfl rfl (by kernel_rfl) (by kernel_rfl) (by kernel_rfl) (fun _ _ _ h => h) rfl ?_ hHeld ?_
        rotate_left
        · (intro wq hSq; have hq0 := hSq; go_simp <;> first | with_reducible rfl | rfl)
        simp only [Act.put, List.setIfInBounds_toArray, List.set_cons_zero, List.set_cons_succ]
        refine take_on (i := 1) (v := ?_) rfl rfl (by kernel_rfl) (by kernel_rfl) (by kernel_rfl) (fun _ _ _ h => h) rfl ?_ hHeld ?_
        rotate_left
        · (intro wq hSq; have hq0 := hSq; go_simp <;> first | with_reducible rfl | rfl)
        simp only [Act.put, List.setIfInBounds_toArray, List.set_cons_zero, List.set_cons_succ]
        refine take_on (i := 2) (v := ?_) rfl rfl (by kernel_rfl) (by kernel_rfl) (by kernel_rfl) (fun _ _ _ h => h) rfl ?_ hHeld ?_
        rotate_left
        · (intro wq hSq; have hq0 := hSq; go_simp <;> first | with_reducible rfl | rfl)
        simp only [Act.put, List.setIfInBounds_toArray, List.set_cons_zero, List.set_cons_succ]
        refine take_on (i := 3) (v := ?_) rfl rfl (by kernel_rfl) (by kernel_rfl) (by kernel_rfl) (fun _ _ _ h => h) rfl ?_ hHeld ?_
        rotate_left
        · (intro wq hSq; have hq0 := hSq; go_simp <;> first | with_reducible rfl | rfl)
        simp only [Act.put, List.setIfInBounds_toArray, List.set_cons_zero, List.set_cons_succ]
        refine take_on (i := 4) (v := ?_) rfl rfl (by kernel_rfl) (by kernel_rfl) (by kernel_rfl) (fun _ _ _ h => h) rfl ?_ hHeld ?_
        rotate_left
        · (intro wq hSq; have hq0 := hSq; go_simp <;> first | with_reducible rfl | rfl)
        simp only [Act.put, List.setIfInBounds_toArray, List.set_cons_zero, List.set_cons_succ]
        refine take_off (i := 5) rfl rfl (by kernel_rfl) (by kernel_rfl) (by kernel_rfl) (fun _ _ _ h => h) rfl hHeld ?_
        simp only [Act.put, List.setIfInBounds_toArray, List.set_cons_zero, List.set_cons_succ]
        refine take_off (i := 6) rfl rfl (by kernel_rfl) (by kernel_rfl) (by kernel_rfl) (fun _ _ _ h => h) rfl hHeld ?_
        simp only [Act.put, List.setIfInBounds_toArray, List.set_cons_zero, List.set_cons_succ]
        refine take_off (i := 7) rfl rfl (by kernel_rfl) (by kernel_rfl) (by kernel_rfl) (fun _ _ _ h => h) rfl hHeld ?_
        simp only [Act.put, List.setIfInBounds_toArray, List.set_cons_zero, List.set_cons_succ]
        refine take_off (i := 8) rfl rfl (by kernel_rfl) (by kernel_rfl) (by kernel_rfl) (fun _ _ _ h => h) rfl hHeld ?_
        simp only [Act.put, List.setIfInBounds_toArray, List.set_cons_zero, List.set_cons_succ]
        refine take_off (i := 9) rfl rfl (by kernel_rfl) (by kernel_rfl) (by kernel_rfl) (fun _ _ _ h => h) rfl hHeld ?_
        simp only [Act.put, List.setIfInBounds_toArray, List.set_cons_zero, List.set_cons_succ]
        refine take_off (i := 10) rfl rfl (by kernel_rfl) (by kernel_rfl) (by kernel_rfl) (fun _ _ _ h => h) rfl hHeld ?_
        simp only [Act.put, List.setIfInBounds_toArray, List.set_cons_zero, List.set_cons_succ]
        refine take_off (i := 11) rfl rfl (by kernel_rfl) (by kernel_rfl) (by kernel_rfl) (fun _ _ _ h => h) rfl hHeld ?_
        simp only [Act.put, List.setIfInBounds_toArray, List.set_cons_zero, List.set_cons_succ]
        refine take_off (i := 12) rfl rfl (by kernel_rfl) (by kernel_rfl) (by kernel_rfl) (fun _ _ _ h => h) rfl hHeld ?_
        simp only [Act.put, List.setIfInBounds_toArray, List.set_cons_zero, List.set_cons_succ]
        refine take_off (i := 13) rfl rfl (by kernel_rfl) (by kernel_rfl) (by kernel_rfl) (fun _ _ _ h => h) rfl hHeld ?_
        simp only [Act.put, List.setIfInBounds_toArray, List.set_cons_zero, List.set_cons_succ]
        refine take_on (i := 14) (v := ?_) rfl rfl (by kernel_rfl) (by kernel_rfl) (by kernel_rfl) (fun _ _ _ h => h) rfl ?_ hHeld ?_
        rotate_left
        · (intro wq hSq; have hq0 := hSq; go_simp <;> first | with_reducible rfl | rfl)
        simp only [Act.put, List.setIfInBounds_toArray, List.set_cons_zero, List.set_cons_succ]
        refine take_on (i := 15) (v := ?_) rfl rfl (by kernel_rfl) (by kernel_rfl) (by kernel_rfl) (fun _ _ _ h => h) rfl ?_ hHeld ?_
        rotate_left
        · (intro wq hSq; have hq0 := hSq; go_simp <;> first | with_reducible rfl | rfl)
        simp only [Act.put, List.setIfInBounds_toArray, List.set_cons_zero, List.set_cons_succ]
        refine take_on (i := 16) (v := ?_) rfl rfl (by kernel_rfl) (by kernel_rfl) (by kernel_rfl) (fun _ _ _ h => h) rfl ?_ hHeld ?_
        rotate_left
        · (intro wq hSq; have hq0 := hSq; go_simp <;> first | with_reducible rfl | rfl)
        simp only [Act.put, List.setIfInBounds_toArray, List.set_cons_zero, List.set_cons_succ]
        refine take_on (i := 17) (v := ?_) rfl rfl (by kernel_rfl) (by kernel_rfl) (by kernel_rfl) (fun _ _ _ h => h) rfl ?_ hHeld ?_
        rotate_left
        · (intro wq hSq; have hq0 := hSq; go_simp <;> first | with_reducible rfl | rfl)
        simp only [Act.put, List.setIfInBounds_toArray, List.set_cons_zero, List.set_cons_succ]
        refine take_on (i := 18) (v := ?_) rfl rfl (by kernel_rfl) (by kernel_rfl) (by kernel_rfl) (fun _ _ _ h => h) rfl ?_ hHeld ?_
        rotate_left
        · (intro wq hSq; have hq0 := hSq; go_simp <;> first | with_reducible rfl | rfl)
        simp only [Act.put, List.setIfInBounds_toArray, List.set_cons_zero, List.set_cons_succ]
        refine take_on (i := 19) (v := ?_) rfl rfl (by kernel_rfl) (by kernel_rfl) (by kernel_rfl) (fun _ _ _ h => h) rfl ?_ hHeld ?_
        rotate_left
        · (intro wq hSq; have hq0 := hSq; go_simp <;> first | with_reducible rfl | rfl)
        simp only [Act.put, List.setIfInBounds_toArray, List.set_cons_zero, List.set_cons_succ]
        refine take_on (i := 20) (v := ?_) rfl rfl (by kernel_rfl) (by kernel_rfl) (by kernel_rfl) (fun _ _ _ h => h) rfl ?_ hHeld ?_
        rotate_left
        · (intro wq hSq; have hq0 := hSq; go_simp <;> first | with_reducible rfl | rfl)
        simp only [Act.put, List.setIfInBounds_toArray, List.set_cons_zero, List.set_cons_succ]
        refine take_on (i := 21) (v := ?_) rfl rfl (by kernel_rfl) (by kernel_rfl) (by kernel_rfl) (fun _ _ _ h => h) rfl ?_ hHeld ?_
        rotate_left
        · (intro wq hSq; have hq0 := hSq; go_simp <;> first | with_reducible rfl | rfl)
        simp only [Act.put, List.setIfInBounds_toArray, List.set_cons_zero, List.set_cons_succ]
        refine take_on (i := 22) (v := ?_) rfl rfl (by kernel_rfl) (by kernel_rfl) (by kernel_rfl) (fun _ _ _ h => h) rfl ?_ hHeld ?_
        rotate_left
        · (intro wq hSq; have hq0 := hSq; go_simp <;> first | with_reducible rfl | rfl)
        simp only [Act.put, List.setIfInBounds_toArray, List.set_cons_zero, List.set_cons_succ]
        refine take_on (i := 23) (v := ?_) rfl rfl (by kernel_rfl) (by kernel_rfl) (by kernel_rfl) (fun _ _ _ h => h) rfl ?_ hHeld ?_
        rotate_left
        · (intro wq hSq; have hq0 := hSq; go_simp <;> first | with_reducible rfl | rfl)
        simp only [Act.put, List.setIfInBounds_toArray, List.set_cons_zero, List.set_cons_succ]
        refine take_on (i := 24) (v := ?_) rfl rfl (by kernel_rfl) (by kernel_rfl) (by kernel_rfl) (fun _ _ _ h => h) rfl ?_ hHeld ?_
        rotate_left
        · (intro wq hSq; have hq0 := hSq; go_simp <;> first | with_reducible rfl | rfl)
        simp only [Act.put, List.setIfInBounds_toArray, List.set_cons_zero, List.set_cons_succ]
        refine take_on (i := 25) (v := ?_) rfl rfl (by kernel_rfl) (by kernel_rfl) (by kernel_rfl) (fun _ _ _ h => h) rfl ?_ hHeld ?_
        rotate_left
        · (intro wq hSq; have hq0 := hSq; go_simp <;> first | with_reducible rfl | rfl)
        simp only [Act.put, List.setIfInBounds_toArray, List.set_cons_zero, List.set_cons_succ]
        refine take_on (i := 26) (v := ?_) rfl rfl (by kernel_rfl) (by kernel_rfl) (by kernel_rfl) (fun _ _ _ h => h) rfl ?_ hHeld ?_
        rotate_left
        · (intro wq hSq; have hq0 := hSq; go_simp <;> first | with_reducible rfl | rfl)
        simp only [Act.put, List.setIfInBounds_toArray, List.set_cons_zero, List.set_cons_succ]
        refine take_on (i := 27) (v := ?_) rfl rfl (by kernel_rfl) (by kernel_rfl) (by kernel_rfl) (fun _ _ _ h => h) rfl ?_ hHeld ?_
        rotate_left
        · (intro wq hSq; have hq0 := hSq; go_simp <;> first | with_reducible rfl | rfl)
        simp only [Act.put, List.setIfInBounds_toArray, List.set_cons_zero, List.set_cons_succ]
        refine take_on (i := 28) (v := ?_) rfl rfl (by kernel_rfl) (by kernel_rfl) (by kernel_rfl) (fun _ _ _ h => h) rfl ?_ hHeld ?_
        rotate_left
        · (intro wq hSq; have hq0 := hSq; go_simp <;> first | with_reducible rfl | rfl)
        simp only [Act.put, List.setIfInBounds_toArray, List.set_cons_zero, List.set_cons_succ]
        refine take_on (i := 29) (v := ?_) rfl rfl (by kernel_rfl) (by kernel_rfl) (by kernel_rfl) (fun _ _ _ h => h) rfl ?_ hHeld ?_
        rotate_left
        · (intro wq hSq; have hq0 := hSq; go_simp <;> first | with_reducible rfl | rfl)
        simp only [Act.put, List.setIfInBounds_toArray, List.set_cons_zero, List.set_cons_succ]
        refine take_on (i := 30) (v := ?_) rfl rfl (by kernel_rfl) (by kernel_rfl) (by kernel_rfl) (fun _ _ _ h => h) rfl ?_ hHeld ?_
        rotate_left
        · (intro wq hSq; have hq0 := hSq; go_simp <;> first | with_reducible rfl | rfl)
        simp only [Act.put, List.setIfInBounds_toArray, List.set_cons_zero, List.set_cons_succ]
        refine take_on (i := 31) (v := ?_) rfl rfl (by kernel_rfl) (by kernel_rfl) (by kernel_rfl) (fun _ _ _ h => h) rfl ?_ hHeld ?_
        rotate_left
        · (intro wq hSq; have hq0 := hSq; go_simp <;> first | with_reducible rfl | rfl)
        simp only [Act.put, List.setIfInBounds_toArray, List.set_cons_zero, List.set_cons_succ]
        refine take_on (i := 32) (v := ?_) rfl rfl (by kernel_rfl) (by kernel_rfl) (by kernel_rfl) (fun _ _ _ h => h) rfl ?_ hHeld ?_
        rotate_left
        · (intro wq hSq; have hq0 := hSq; go_simp <;> first | with_reducible rfl | rfl)
        simp only [Act.put, List.setIfInBounds_toArray, List.set_cons_zero, List.set_cons_succ]
        refine take_on (i := 33) (v := ?_) rfl rfl (by kernel_rfl) (by kernel_rfl) (by kernel_rfl) (fun _ _ _ h => h) rfl ?_ hHeld ?_
        rotate_left
        · (intro wq hSq; have hq0 := hSq; go_simp <;> first | with_reducible rfl | rfl)
        simp only [Act.put, List.setIfInBounds_toArray, List.set_cons_zero, List.set_cons_succ]
        refine wpAnyH_done (by kernel_rfl) ?_ _
        go_wp2_with fail
        go_roundw
        case rel => exact ⟨k + 1, q + 1, by omega, by go_num, by rw [HW.out]; rfl⟩
        case measure => simp [intOf]; omega
    · have hd : decide ((k : Int) < (F.length : Int)) = false := by simp; omega
      go_wp2_with fail
      go_ret
      exact ⟨rfl, hbl⟩
end Go.Proofs.Ythclmkmajlinhab
