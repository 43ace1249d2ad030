/- Things read by the program: what reading one answers. -/
import Derived.Test.YtfhinodieghklabTh2
import Derived.Test.YtfhinodieghklabReg
import Derived.Test.YtfhinodieghklabTwo
namespace Go.Proofs.Ytfhinodieghklab
open Go.RowKit

/-- What comes of reading a thing. -/
def Backed (p : Nat) (w : World) (r : Bool × (List Nat × Nat)) (e : Ending) (w' : World) : Prop :=
  e = .returned (.bool r.1) ∧ Rst w' (some ⟨p, 0, none⟩) r.2 ∧ w.grownBy w' (some p)
theorem beq_nat (x y : Nat) : ((x : Int) == (y : Int)) = decide (x = y) := by
  by_cases h : x = y
  · subst h; simp
  · simp [h]; omega
theorem beq_int (x y : Int) : (x == y) = decide (x = y) := by
  by_cases h : x = y
  · subst h; simp
  · simp [h]
theorem str_inj {p q : List Nat} (hp : All8 p) (hq : All8 q) : ((strOf p).toList = (strOf q).toList) ↔ p = q := by
  refine ⟨fun e => ?_, fun e => by rw [e]⟩
  rw [Lib.toList_data, Lib.toList_data] at e
  have := congrArg (List.map UInt8.toNat) e
  change strNat (strOf p) = strNat (strOf q) at this
  rwa [strNat_strOf hp, strNat_strOf hq] at this

set_option maxRecDepth 100000 in
set_option maxHeartbeats 400000 in
theorem back0 (p : Nat) (t : Thing) (s : List Nat × Nat) (w : World) (ht : t.Ok) (hk : t.k = 0) (hp : RowB w t.a t.p) (hs : Rst w (some ⟨p, 0, none⟩) s) (_hbs : s.1.length ≤ 140737488355328) :
    Calls Try.prog 11 #[.pointer (some ⟨p, 0, none⟩), thingV t] w fun e w' => Backed p w (t.back s) e w' := by
  have hb := thing_below w t
  have hpl := hs.lt
  have hpw : w.heap.size ≠ p := by omega
  have hsb := hs.below (hb.drew)
  have hpb := hp.below (hb.drew)
  have HE : Hid (t.back s = (decide ((rdOf 0 (takeFixed 1) s).1 = t.v % 256), (rdOf 0 (takeFixed 1) s).2)) := by unfold Hid Thing.back; rw [if_pos hk]
  have hw : IntKind.u8.wrap (t.v : Int) = ((t.v % 256 : Nat) : Int) := wrap_byte t.v
  have hx := fun W h => take8 (some ⟨p, 0, none⟩) s W h
  generalize rdOf 0 (takeFixed 1) s = x at *
  clear hs hp
  obtain ⟨k, v, n, tp, ta, tc⟩ := t
  simp only at hk
  subst hk
  go_enter Try.func11, Try.ntmps11
  go_wp2_with fail
  refine wp_region_held_drew (S := (fun w' => w'.cell? ⟨w.heap.size, 1, none⟩ = some (.int .u64 (v : Int)))) (by kernel_rfl) ?_ (fun hHeld => ?_)
  · show (w.alloc _).cell? ⟨w.heap.size, 1, none⟩ = _; rw [cell_of_row _ _ _ _ _ _ (heap_alloc_new w _)]; rfl
  refine take_on (i := 0) (v := ?_) rfl rfl (by kernel_rfl) (by kernel_rfl) (by kernel_rfl) (fun _ _ _ h => h) rfl ?_ hHeld ?_
  rotate_left
  · (intro wq hSq; have hq0 := hSq; go_simp <;> first | with_reducible rfl | rfl)
  simp only [Act.put, List.setIfInBounds_toArray, List.set_cons_zero, List.set_cons_succ]
  refine take_on (i := 2) (v := ?_) rfl rfl (by kernel_rfl) (by kernel_rfl) (by kernel_rfl) (fun _ _ _ h => h) rfl ?_ hHeld ?_
  rotate_left
  · (intro wq hSq; have hq0 := hSq; go_simp <;> first | with_reducible rfl | rfl)
  simp only [Act.put, List.setIfInBounds_toArray, List.set_cons_zero, List.set_cons_succ]
  refine take_on (i := 3) (v := ?_) rfl rfl (by kernel_rfl) (by kernel_rfl) (by kernel_rfl) (fun _ _ _ h => h) rfl ?_ hHeld ?_
  rotate_left
  · (intro wq hSq; have hq0 := hSq; go_simp <;> first | with_reducible rfl | rfl)
  simp only [Act.put, List.setIfInBounds_toArray, List.set_cons_zero, List.set_cons_succ]
  refine take_on (i := 4) (v := ?_) rfl rfl (by kernel_rfl) (by kernel_rfl) (by kernel_rfl) (fun _ _ _ h => h) rfl ?_ hHeld ?_
  rotate_left
  · (intro wq hSq; have hq0 := hSq; go_simp <;> first | with_reducible rfl | rfl)
  simp only [Act.put, List.setIfInBounds_toArray, List.set_cons_zero, List.set_cons_succ]
  refine take_one (i := 1) rfl (by kernel_rfl) (fun K hK => ?_)
  go_simp
  refine (hx _ hsb).mono ?_; rintro e w1 ⟨rfl, hs1, hg1⟩
  try go_wp2_with fail
  refine hK.out _ _ ?_ (fun hHeld => ?_)
  · exact cell_kept hHeld (by simp) hpw hg1
  clear hK K
  try simp only [Act.put, List.setIfInBounds_toArray, List.set_cons_zero, List.set_cons_succ]
  refine take_on (i := 5) (v := ?_) rfl rfl (by kernel_rfl) (by kernel_rfl) (by kernel_rfl) (fun _ _ _ h => h) rfl ?_ hHeld ?_
  rotate_left
  · (intro wq hSq; have hq0 := hSq; go_simp <;> first | with_reducible rfl | rfl)
  simp only [Act.put, List.setIfInBounds_toArray, List.set_cons_zero, List.set_cons_succ]
  refine take_on (i := 6) (v := ?_) rfl rfl (by kernel_rfl) (by kernel_rfl) (by kernel_rfl) (fun _ _ _ h => h) rfl ?_ hHeld ?_
  rotate_left
  · (intro wq hSq; have hq0 := hSq; go_simp <;> first | with_reducible rfl | rfl)
  simp only [Act.put, List.setIfInBounds_toArray, List.set_cons_zero, List.set_cons_succ]
  refine wpAnyH_done (by kernel_rfl) ?_ _
  go_wp2_with fail
  go_ret
  rw [HE.out]
  exact ⟨congrArg (fun b => Ending.returned (.bool b)) (beq_nat _ _), hs1, grown_pre hb.drew hg1⟩
set_option maxRecDepth 100000 in
set_option maxHeartbeats 400000 in
theorem back1 (p : Nat) (t : Thing) (s : List Nat × Nat) (w : World) (ht : t.Ok) (hk : t.k = 1) (hp : RowB w t.a t.p) (hs : Rst w (some ⟨p, 0, none⟩) s) (_hbs : s.1.length ≤ 140737488355328) :
    Calls Try.prog 11 #[.pointer (some ⟨p, 0, none⟩), thingV t] w fun e w' => Backed p w (t.back s) e w' := by
  have hb := thing_below w t
  have hpl := hs.lt
  have hpw : w.heap.size ≠ p := by omega
  have hsb := hs.below (hb.drew)
  have hpb := hp.below (hb.drew)
  have HE : Hid (t.back s = (decide ((rdOf 0 (takeFixed 2) s).1 = t.v % 65536), (rdOf 0 (takeFixed 2) s).2)) := by unfold Hid Thing.back; rw [if_neg (by omega), if_pos hk]
  have hw := wrap16 t.v
  have hx := fun W h => take16 (some ⟨p, 0, none⟩) s W h
  generalize rdOf 0 (takeFixed 2) s = x at *
  clear hs hp
  obtain ⟨k, v, n, tp, ta, tc⟩ := t
  simp only at hk
  subst hk
  go_enter Try.func11, Try.ntmps11
  go_wp2_with fail
  refine wp_region_held_drew (S := (fun w' => w'.cell? ⟨w.heap.size, 1, none⟩ = some (.int .u64 (v : Int)))) (by kernel_rfl) ?_ (fun hHeld => ?_)
  · show (w.alloc _).cell? ⟨w.heap.size, 1, none⟩ = _; rw [cell_of_row _ _ _ _ _ _ (heap_alloc_new w _)]; rfl
  refine take_on (i := 0) (v := ?_) rfl rfl (by kernel_rfl) (by kernel_rfl) (by kernel_rfl) (fun _ _ _ h => h) rfl ?_ hHeld ?_
  rotate_left
  · (intro wq hSq; have hq0 := hSq; go_simp <;> first | with_reducible rfl | rfl)
  simp only [Act.put, List.setIfInBounds_toArray, List.set_cons_zero, List.set_cons_succ]
  refine take_on (i := 2) (v := ?_) rfl rfl (by kernel_rfl) (by kernel_rfl) (by kernel_rfl) (fun _ _ _ h => h) rfl ?_ hHeld ?_
  rotate_left
  · (intro wq hSq; have hq0 := hSq; go_simp <;> first | with_reducible rfl | rfl)
  simp only [Act.put, List.setIfInBounds_toArray, List.set_cons_zero, List.set_cons_succ]
  refine take_on (i := 3) (v := ?_) rfl rfl (by kernel_rfl) (by kernel_rfl) (by kernel_rfl) (fun _ _ _ h => h) rfl ?_ hHeld ?_
  rotate_left
  · (intro wq hSq; have hq0 := hSq; go_simp <;> first | with_reducible rfl | rfl)
  simp only [Act.put, List.setIfInBounds_toArray, List.set_cons_zero, List.set_cons_succ]
  refine take_on (i := 4) (v := ?_) rfl rfl (by kernel_rfl) (by kernel_rfl) (by kernel_rfl) (fun _ _ _ h => h) rfl ?_ hHeld ?_
  rotate_left
  · (intro wq hSq; have hq0 := hSq; go_simp <;> first | with_reducible rfl | rfl)
  simp only [Act.put, List.setIfInBounds_toArray, List.set_cons_zero, List.set_cons_succ]
  refine take_one (i := 1) rfl (by kernel_rfl) (fun K hK => ?_)
  go_simp
  refine (hx _ hsb).mono ?_; rintro e w1 ⟨rfl, hs1, hg1⟩
  try go_wp2_with fail
  refine hK.out _ _ ?_ (fun hHeld => ?_)
  · exact cell_kept hHeld (by simp) hpw hg1
  clear hK K
  try simp only [Act.put, List.setIfInBounds_toArray, List.set_cons_zero, List.set_cons_succ]
  refine take_on (i := 5) (v := ?_) rfl rfl (by kernel_rfl) (by kernel_rfl) (by kernel_rfl) (fun _ _ _ h => h) rfl ?_ hHeld ?_
  rotate_left
  · (intro wq hSq; have hq0 := hSq; go_simp <;> first | with_reducible rfl | rfl)
  simp only [Act.put, List.setIfInBounds_toArray, List.set_cons_zero, List.set_cons_succ]
  refine take_on (i := 6) (v := ?_) rfl rfl (by kernel_rfl) (by kernel_rfl) (by kernel_rfl) (fun _ _ _ h => h) rfl ?_ hHeld ?_
  rotate_left
  · (intro wq hSq; have hq0 := hSq; go_simp <;> first | with_reducible rfl | rfl)
  simp only [Act.put, List.setIfInBounds_toArray, List.set_cons_zero, List.set_cons_succ]
  refine wpAnyH_done (by kernel_rfl) ?_ _
  go_wp2_with fail
  go_ret
  rw [HE.out]
  exact ⟨congrArg (fun b => Ending.returned (.bool b)) (beq_nat _ _), hs1, grown_pre hb.drew hg1⟩
set_option maxRecDepth 100000 in
set_option maxHeartbeats 400000 in
theorem back2 (p : Nat) (t : Thing) (s : List Nat × Nat) (w : World) (ht : t.Ok) (hk : t.k = 2) (hp : RowB w t.a t.p) (hs : Rst w (some ⟨p, 0, none⟩) s) (_hbs : s.1.length ≤ 140737488355328) :
    Calls Try.prog 11 #[.pointer (some ⟨p, 0, none⟩), thingV t] w fun e w' => Backed p w (t.back s) e w' := by
  have hb := thing_below w t
  have hpl := hs.lt
  have hpw : w.heap.size ≠ p := by omega
  have hsb := hs.below (hb.drew)
  have hpb := hp.below (hb.drew)
  have HE : Hid (t.back s = (decide ((rdOf 0 (takeFixed 4) s).1 = t.v % 4294967296), (rdOf 0 (takeFixed 4) s).2)) := by unfold Hid Thing.back; rw [if_neg (by omega), if_neg (by omega), if_pos hk]
  have hw := wrap32 t.v
  have hx := fun W h => take32 (some ⟨p, 0, none⟩) s W h
  generalize rdOf 0 (takeFixed 4) s = x at *
  clear hs hp
  obtain ⟨k, v, n, tp, ta, tc⟩ := t
  simp only at hk
  subst hk
  go_enter Try.func11, Try.ntmps11
  go_wp2_with fail
  refine wp_region_held_drew (S := (fun w' => w'.cell? ⟨w.heap.size, 1, none⟩ = some (.int .u64 (v : Int)))) (by kernel_rfl) ?_ (fun hHeld => ?_)
  · show (w.alloc _).cell? ⟨w.heap.size, 1, none⟩ = _; rw [cell_of_row _ _ _ _ _ _ (heap_alloc_new w _)]; rfl
  refine take_on (i := 0) (v := ?_) rfl rfl (by kernel_rfl) (by kernel_rfl) (by kernel_rfl) (fun _ _ _ h => h) rfl ?_ hHeld ?_
  rotate_left
  · (intro wq hSq; have hq0 := hSq; go_simp <;> first | with_reducible rfl | rfl)
  simp only [Act.put, List.setIfInBounds_toArray, List.set_cons_zero, List.set_cons_succ]
  refine take_on (i := 2) (v := ?_) rfl rfl (by kernel_rfl) (by kernel_rfl) (by kernel_rfl) (fun _ _ _ h => h) rfl ?_ hHeld ?_
  rotate_left
  · (intro wq hSq; have hq0 := hSq; go_simp <;> first | with_reducible rfl | rfl)
  simp only [Act.put, List.setIfInBounds_toArray, List.set_cons_zero, List.set_cons_succ]
  refine take_on (i := 3) (v := ?_) rfl rfl (by kernel_rfl) (by kernel_rfl) (by kernel_rfl) (fun _ _ _ h => h) rfl ?_ hHeld ?_
  rotate_left
  · (intro wq hSq; have hq0 := hSq; go_simp <;> first | with_reducible rfl | rfl)
  simp only [Act.put, List.setIfInBounds_toArray, List.set_cons_zero, List.set_cons_succ]
  refine take_on (i := 4) (v := ?_) rfl rfl (by kernel_rfl) (by kernel_rfl) (by kernel_rfl) (fun _ _ _ h => h) rfl ?_ hHeld ?_
  rotate_left
  · (intro wq hSq; have hq0 := hSq; go_simp <;> first | with_reducible rfl | rfl)
  simp only [Act.put, List.setIfInBounds_toArray, List.set_cons_zero, List.set_cons_succ]
  refine take_one (i := 1) rfl (by kernel_rfl) (fun K hK => ?_)
  go_simp
  refine (hx _ hsb).mono ?_; rintro e w1 ⟨rfl, hs1, hg1⟩
  try go_wp2_with fail
  refine hK.out _ _ ?_ (fun hHeld => ?_)
  · exact cell_kept hHeld (by simp) hpw hg1
  clear hK K
  try simp only [Act.put, List.setIfInBounds_toArray, List.set_cons_zero, List.set_cons_succ]
  refine take_on (i := 5) (v := ?_) rfl rfl (by kernel_rfl) (by kernel_rfl) (by kernel_rfl) (fun _ _ _ h => h) rfl ?_ hHeld ?_
  rotate_left
  · (intro wq hSq; have hq0 := hSq; go_simp <;> first | with_reducible rfl | rfl)
  simp only [Act.put, List.setIfInBounds_toArray, List.set_cons_zero, List.set_cons_succ]
  refine take_on (i := 6) (v := ?_) rfl rfl (by kernel_rfl) (by kernel_rfl) (by kernel_rfl) (fun _ _ _ h => h) rfl ?_ hHeld ?_
  rotate_left
  · (intro wq hSq; have hq0 := hSq; go_simp <;> first | with_reducible rfl | rfl)
  simp only [Act.put, List.setIfInBounds_toArray, List.set_cons_zero, List.set_cons_succ]
  refine wpAnyH_done (by kernel_rfl) ?_ _
  go_wp2_with fail
  go_ret
  rw [HE.out]
  exact ⟨congrArg (fun b => Ending.returned (.bool b)) (beq_nat _ _), hs1, grown_pre hb.drew hg1⟩
set_option maxRecDepth 100000 in
set_option maxHeartbeats 400000 in
theorem back3 (p : Nat) (t : Thing) (s : List Nat × Nat) (w : World) (ht : t.Ok) (hk : t.k = 3) (hp : RowB w t.a t.p) (hs : Rst w (some ⟨p, 0, none⟩) s) (_hbs : s.1.length ≤ 140737488355328) :
    Calls Try.prog 11 #[.pointer (some ⟨p, 0, none⟩), thingV t] w fun e w' => Backed p w (t.back s) e w' := by
  have hb := thing_below w t
  have hpl := hs.lt
  have hpw : w.heap.size ≠ p := by omega
  have hsb := hs.below (hb.drew)
  have hpb := hp.below (hb.drew)
  have HE : Hid (t.back s = (decide ((rdOf 0 (takeFixed 8) s).1 = t.v), (rdOf 0 (takeFixed 8) s).2)) := by unfold Hid Thing.back; rw [if_neg (by omega), if_neg (by omega), if_neg (by omega), if_pos hk]
  have hx := fun W h => take64 (some ⟨p, 0, none⟩) s W h
  generalize rdOf 0 (takeFixed 8) s = x at *
  clear hs hp
  obtain ⟨k, v, n, tp, ta, tc⟩ := t
  simp only at hk
  subst hk
  go_enter Try.func11, Try.ntmps11
  go_wp2_with fail
  refine wp_region_held_drew (S := (fun w' => w'.cell? ⟨w.heap.size, 1, none⟩ = some (.int .u64 (v : Int)))) (by kernel_rfl) ?_ (fun hHeld => ?_)
  · show (w.alloc _).cell? ⟨w.heap.size, 1, none⟩ = _; rw [cell_of_row _ _ _ _ _ _ (heap_alloc_new w _)]; rfl
  refine take_on (i := 0) (v := ?_) rfl rfl (by kernel_rfl) (by kernel_rfl) (by kernel_rfl) (fun _ _ _ h => h) rfl ?_ hHeld ?_
  rotate_left
  · (intro wq hSq; have hq0 := hSq; go_simp <;> first | with_reducible rfl | rfl)
  simp only [Act.put, List.setIfInBounds_toArray, List.set_cons_zero, List.set_cons_succ]
  refine take_on (i := 2) (v := ?_) rfl rfl (by kernel_rfl) (by kernel_rfl) (by kernel_rfl) (fun _ _ _ h => h) rfl ?_ hHeld ?_
  rotate_left
  · (intro wq hSq; have hq0 := hSq; go_simp <;> first | with_reducible rfl | rfl)
  simp only [Act.put, List.setIfInBounds_toArray, List.set_cons_zero, List.set_cons_succ]
  refine take_on (i := 3) (v := ?_) rfl rfl (by kernel_rfl) (by kernel_rfl) (by kernel_rfl) (fun _ _ _ h => h) rfl ?_ hHeld ?_
  rotate_left
  · (intro wq hSq; have hq0 := hSq; go_simp <;> first | with_reducible rfl | rfl)
  simp only [Act.put, List.setIfInBounds_toArray, List.set_cons_zero, List.set_cons_succ]
  refine take_one (i := 1) rfl (by kernel_rfl) (fun K hK => ?_)
  go_simp
  refine (hx _ hsb).mono ?_; rintro e w1 ⟨rfl, hs1, hg1⟩
  try go_wp2_with fail
  refine hK.out _ _ ?_ (fun hHeld => ?_)
  · exact cell_kept hHeld (by simp) hpw hg1
  clear hK K
  try simp only [Act.put, List.setIfInBounds_toArray, List.set_cons_zero, List.set_cons_succ]
  refine take_on (i := 4) (v := ?_) rfl rfl (by kernel_rfl) (by kernel_rfl) (by kernel_rfl) (fun _ _ _ h => h) rfl ?_ hHeld ?_
  rotate_left
  · (intro wq hSq; have hq0 := hSq; go_simp <;> first | with_reducible rfl | rfl)
  simp only [Act.put, List.setIfInBounds_toArray, List.set_cons_zero, List.set_cons_succ]
  refine take_on (i := 5) (v := ?_) rfl rfl (by kernel_rfl) (by kernel_rfl) (by kernel_rfl) (fun _ _ _ h => h) rfl ?_ hHeld ?_
  rotate_left
  · (intro wq hSq; have hq0 := hSq; go_simp <;> first | with_reducible rfl | rfl)
  simp only [Act.put, List.setIfInBounds_toArray, List.set_cons_zero, List.set_cons_succ]
  refine wpAnyH_done (by kernel_rfl) ?_ _
  go_wp2_with fail
  go_ret
  rw [HE.out]
  exact ⟨congrArg (fun b => Ending.returned (.bool b)) (beq_nat _ _), hs1, grown_pre hb.drew hg1⟩
set_option maxRecDepth 100000 in
set_option maxHeartbeats 400000 in
theorem back4 (p : Nat) (t : Thing) (s : List Nat × Nat) (w : World) (ht : t.Ok) (hk : t.k = 4) (hp : RowB w t.a t.p) (hs : Rst w (some ⟨p, 0, none⟩) s) (_hbs : s.1.length ≤ 140737488355328) :
    Calls Try.prog 11 #[.pointer (some ⟨p, 0, none⟩), thingV t] w fun e w' => Backed p w (t.back s) e w' := by
  have hb := thing_below w t
  have hpl := hs.lt
  have hpw : w.heap.size ≠ p := by omega
  have hsb := hs.below (hb.drew)
  have hpb := hp.below (hb.drew)
  have HE : Hid (t.back s = (decide ((rdOf 0 (takeShort t.n t.n) s).1 = t.n), (rdOf 0 (takeShort t.n t.n) s).2)) := by unfold Hid Thing.back; rw [if_neg (by omega), if_neg (by omega), if_neg (by omega), if_neg (by omega), if_pos hk]
  have hx := fun W h => int_any (some ⟨p, 0, none⟩) t.n t.n s W h ht.n1 ht.n2 ht.n1 ht.n2
  generalize rdOf 0 (takeShort t.n t.n) s = x at *
  clear hs hp
  obtain ⟨k, v, n, tp, ta, tc⟩ := t
  simp only at hk
  subst hk
  go_enter Try.func11, Try.ntmps11
  go_wp2_with fail
  refine wp_region_held_drew (S := (fun w' => w'.cell? ⟨w.heap.size, 2, none⟩ = some (.int .i64 n))) (by kernel_rfl) ?_ (fun hHeld => ?_)
  · show (w.alloc _).cell? ⟨w.heap.size, 2, none⟩ = _; rw [cell_of_row _ _ _ _ _ _ (heap_alloc_new w _)]; rfl
  refine take_on (i := 0) (v := ?_) rfl rfl (by kernel_rfl) (by kernel_rfl) (by kernel_rfl) (fun _ _ _ h => h) rfl ?_ hHeld ?_
  rotate_left
  · (intro wq hSq; have hq0 := hSq; go_simp <;> first | with_reducible rfl | rfl)
  simp only [Act.put, List.setIfInBounds_toArray, List.set_cons_zero, List.set_cons_succ]
  refine take_on (i := 1) (v := ?_) rfl rfl (by kernel_rfl) (by kernel_rfl) (by kernel_rfl) (fun _ _ _ h => h) rfl ?_ hHeld ?_
  rotate_left
  · (intro wq hSq; have hq0 := hSq; go_simp <;> first | with_reducible rfl | rfl)
  simp only [Act.put, List.setIfInBounds_toArray, List.set_cons_zero, List.set_cons_succ]
  refine take_on (i := 2) (v := ?_) rfl rfl (by kernel_rfl) (by kernel_rfl) (by kernel_rfl) (fun _ _ _ h => h) rfl ?_ hHeld ?_
  rotate_left
  · (intro wq hSq; have hq0 := hSq; go_simp <;> first | with_reducible rfl | rfl)
  simp only [Act.put, List.setIfInBounds_toArray, List.set_cons_zero, List.set_cons_succ]
  refine take_on (i := 3) (v := ?_) rfl rfl (by kernel_rfl) (by kernel_rfl) (by kernel_rfl) (fun _ _ _ h => h) rfl ?_ hHeld ?_
  rotate_left
  · (intro wq hSq; have hq0 := hSq; go_simp <;> first | with_reducible rfl | rfl)
  simp only [Act.put, List.setIfInBounds_toArray, List.set_cons_zero, List.set_cons_succ]
  refine take_on (i := 4) (v := ?_) rfl rfl (by kernel_rfl) (by kernel_rfl) (by kernel_rfl) (fun _ _ _ h => h) rfl ?_ hHeld ?_
  rotate_left
  · (intro wq hSq; have hq0 := hSq; go_simp <;> first | with_reducible rfl | rfl)
  simp only [Act.put, List.setIfInBounds_toArray, List.set_cons_zero, List.set_cons_succ]
  refine take_on (i := 6) (v := ?_) rfl rfl (by kernel_rfl) (by kernel_rfl) (by kernel_rfl) (fun _ _ _ h => h) rfl ?_ hHeld ?_
  rotate_left
  · (intro wq hSq; have hq0 := hSq; go_simp <;> first | with_reducible rfl | rfl)
  simp only [Act.put, List.setIfInBounds_toArray, List.set_cons_zero, List.set_cons_succ]
  refine take_on (i := 7) (v := ?_) rfl rfl (by kernel_rfl) (by kernel_rfl) (by kernel_rfl) (fun _ _ _ h => h) rfl ?_ hHeld ?_
  rotate_left
  · (intro wq hSq; have hq0 := hSq; go_simp <;> first | with_reducible rfl | rfl)
  simp only [Act.put, List.setIfInBounds_toArray, List.set_cons_zero, List.set_cons_succ]
  refine take_one (i := 5) rfl (by kernel_rfl) (fun K hK => ?_)
  go_simp
  refine (hx _ hsb).mono ?_; rintro e w1 ⟨rfl, hs1, hg1⟩
  try go_wp2_with fail
  refine hK.out _ _ ?_ (fun hHeld => ?_)
  · exact cell_kept hHeld (by simp) hpw hg1
  clear hK K
  try simp only [Act.put, List.setIfInBounds_toArray, List.set_cons_zero, List.set_cons_succ]
  refine take_on (i := 8) (v := ?_) rfl rfl (by kernel_rfl) (by kernel_rfl) (by kernel_rfl) (fun _ _ _ h => h) rfl ?_ hHeld ?_
  rotate_left
  · (intro wq hSq; have hq0 := hSq; go_simp <;> first | with_reducible rfl | rfl)
  simp only [Act.put, List.setIfInBounds_toArray, List.set_cons_zero, List.set_cons_succ]
  refine take_on (i := 9) (v := ?_) rfl rfl (by kernel_rfl) (by kernel_rfl) (by kernel_rfl) (fun _ _ _ h => h) rfl ?_ hHeld ?_
  rotate_left
  · (intro wq hSq; have hq0 := hSq; go_simp <;> first | with_reducible rfl | rfl)
  simp only [Act.put, List.setIfInBounds_toArray, List.set_cons_zero, List.set_cons_succ]
  refine wpAnyH_done (by kernel_rfl) ?_ _
  go_wp2_with fail
  go_ret
  rw [HE.out]
  exact ⟨congrArg (fun b => Ending.returned (.bool b)) (beq_int _ _), hs1, grown_pre hb.drew hg1⟩
set_option maxRecDepth 100000 in
set_option maxHeartbeats 400000 in
theorem back5 (p : Nat) (t : Thing) (s : List Nat × Nat) (w : World) (ht : t.Ok) (hk : t.k = 5) (hp : RowB w t.a t.p) (hs : Rst w (some ⟨p, 0, none⟩) s) (_hbs : s.1.length ≤ 140737488355328) :
    Calls Try.prog 11 #[.pointer (some ⟨p, 0, none⟩), thingV t] w fun e w' => Backed p w (t.back s) e w' := by
  have hb := thing_below w t
  have hpl := hs.lt
  have hpw : w.heap.size ≠ p := by omega
  have hsb := hs.below (hb.drew)
  have hpb := hp.below (hb.drew)
  have HE : Hid (t.back s = (decide ((rdOf [] (takeCounted (t.p.length : Int)) s).1 = t.p), (rdOf [] (takeCounted (t.p.length : Int)) s).2)) := by unfold Hid Thing.back; rw [if_neg (by omega), if_neg (by omega), if_neg (by omega), if_neg (by omega), if_neg (by omega)]
  have ha := rdCounted_all (most := (t.p.length : Int)) hsb.all
  have h8 := ht.p8
  have hna := ht.none
  have hx := fun W h => text_any (some ⟨p, 0, none⟩) (t.p.length : Int) s W h (by omega) (by have := ht.len; omega)
  generalize rdOf [] (takeCounted (t.p.length : Int)) s = x at *
  clear hs hp
  obtain ⟨k, v, n, tp, ta, tc⟩ := t
  simp only at hk
  subst hk
  go_enter Try.func11, Try.ntmps11
  go_wp2_with fail
  refine wp_region_held_drew (S := (fun w' => w'.cell? ⟨w.heap.size, 3, none⟩ = some (.slice ta tp.length tc) ∧ RowB w' ta tp)) (by kernel_rfl) ?_ (fun hHeld => ?_)
  · exact ⟨by show (w.alloc _).cell? ⟨w.heap.size, 3, none⟩ = _; rw [cell_of_row _ _ _ _ _ _ (heap_alloc_new w _)]; rfl, hpb⟩
  refine take_on (i := 0) (v := ?_) rfl rfl (by kernel_rfl) (by kernel_rfl) (by kernel_rfl) (fun _ _ _ h => h) rfl ?_ hHeld ?_
  rotate_left
  · (intro wq hSq; obtain ⟨hq0, hq1⟩ := hSq; have hcv := conv_row (cap := tc) hq1 hna; go_simp <;> first | with_reducible rfl | rfl)
  simp only [Act.put, List.setIfInBounds_toArray, List.set_cons_zero, List.set_cons_succ]
  refine take_on (i := 1) (v := ?_) rfl rfl (by kernel_rfl) (by kernel_rfl) (by kernel_rfl) (fun _ _ _ h => h) rfl ?_ hHeld ?_
  rotate_left
  · (intro wq hSq; obtain ⟨hq0, hq1⟩ := hSq; have hcv := conv_row (cap := tc) hq1 hna; go_simp <;> first | with_reducible rfl | rfl)
  simp only [Act.put, List.setIfInBounds_toArray, List.set_cons_zero, List.set_cons_succ]
  refine take_on (i := 2) (v := ?_) rfl rfl (by kernel_rfl) (by kernel_rfl) (by kernel_rfl) (fun _ _ _ h => h) rfl ?_ hHeld ?_
  rotate_left
  · (intro wq hSq; obtain ⟨hq0, hq1⟩ := hSq; have hcv := conv_row (cap := tc) hq1 hna; go_simp <;> first | with_reducible rfl | rfl)
  simp only [Act.put, List.setIfInBounds_toArray, List.set_cons_zero, List.set_cons_succ]
  refine take_on (i := 3) (v := ?_) rfl rfl (by kernel_rfl) (by kernel_rfl) (by kernel_rfl) (fun _ _ _ h => h) rfl ?_ hHeld ?_
  rotate_left
  · (intro wq hSq; obtain ⟨hq0, hq1⟩ := hSq; have hcv := conv_row (cap := tc) hq1 hna; go_simp <;> first | with_reducible rfl | rfl)
  simp only [Act.put, List.setIfInBounds_toArray, List.set_cons_zero, List.set_cons_succ]
  refine take_on (i := 5) (v := ?_) rfl rfl (by kernel_rfl) (by kernel_rfl) (by kernel_rfl) (fun _ _ _ h => h) rfl ?_ hHeld ?_
  rotate_left
  · (intro wq hSq; obtain ⟨hq0, hq1⟩ := hSq; have hcv := conv_row (cap := tc) hq1 hna; go_simp <;> first | with_reducible rfl | rfl)
  simp only [Act.put, List.setIfInBounds_toArray, List.set_cons_zero, List.set_cons_succ]
  refine take_on (i := 6) (v := ?_) rfl rfl (by kernel_rfl) (by kernel_rfl) (by kernel_rfl) (fun _ _ _ h => h) rfl ?_ hHeld ?_
  rotate_left
  · (intro wq hSq; obtain ⟨hq0, hq1⟩ := hSq; have hcv := conv_row (cap := tc) hq1 hna; go_simp <;> first | with_reducible rfl | rfl)
  simp only [Act.put, List.setIfInBounds_toArray, List.set_cons_zero, List.set_cons_succ]
  refine take_on (i := 7) (v := ?_) rfl rfl (by kernel_rfl) (by kernel_rfl) (by kernel_rfl) (fun _ _ _ h => h) rfl ?_ hHeld ?_
  rotate_left
  · (intro wq hSq; obtain ⟨hq0, hq1⟩ := hSq; have hcv := conv_row (cap := tc) hq1 hna; go_simp <;> first | with_reducible rfl | rfl)
  simp only [Act.put, List.setIfInBounds_toArray, List.set_cons_zero, List.set_cons_succ]
  refine take_one (i := 4) rfl (by kernel_rfl) (fun K hK => ?_)
  go_simp
  refine (hx _ hsb).mono ?_; rintro e w1 ⟨rfl, hs1, hg1⟩
  try go_wp2_with fail
  refine hK.out _ _ ?_ (fun hHeld => ?_)
  · exact ⟨cell_kept hHeld.1 (by simp) hpw hg1, keepRow hHeld.2 hsb hg1⟩
  clear hK K
  try simp only [Act.put, List.setIfInBounds_toArray, List.set_cons_zero, List.set_cons_succ]
  refine take_on (i := 8) (v := ?_) rfl rfl (by kernel_rfl) (by kernel_rfl) (by kernel_rfl) (fun _ _ _ h => h) rfl ?_ hHeld ?_
  rotate_left
  · (intro wq hSq; obtain ⟨hq0, hq1⟩ := hSq; have hcv := conv_row (cap := tc) hq1 hna; go_simp <;> first | with_reducible rfl | rfl)
  simp only [Act.put, List.setIfInBounds_toArray, List.set_cons_zero, List.set_cons_succ]
  refine take_on (i := 9) (v := ?_) rfl rfl (by kernel_rfl) (by kernel_rfl) (by kernel_rfl) (fun _ _ _ h => h) rfl ?_ hHeld ?_
  rotate_left
  · (intro wq hSq; obtain ⟨hq0, hq1⟩ := hSq; have hcv := conv_row (cap := tc) hq1 hna; go_simp <;> first | with_reducible rfl | rfl)
  simp only [Act.put, List.setIfInBounds_toArray, List.set_cons_zero, List.set_cons_succ]
  refine wpAnyH_done (by kernel_rfl) ?_ _
  go_wp2_with fail
  go_ret
  rw [HE.out]
  exact ⟨congrArg (fun b => Ending.returned (.bool b)) (by rw [Bool.eq_iff_iff]; simp [str_inj ha h8]), hs1, grown_pre hb.drew hg1⟩
set_option maxRecDepth 100000 in
set_option maxHeartbeats 400000 in
theorem back6 (p : Nat) (t : Thing) (s : List Nat × Nat) (w : World) (ht : t.Ok) (h0 : t.k ≠ 0) (h1 : t.k ≠ 1) (h2 : t.k ≠ 2) (h3 : t.k ≠ 3) (h4 : t.k ≠ 4) (h5 : t.k ≠ 5) (hp : RowB w t.a t.p) (hs : Rst w (some ⟨p, 0, none⟩) s) (hbs : s.1.length ≤ 140737488355328) :
    Calls Try.prog 11 #[.pointer (some ⟨p, 0, none⟩), thingV t] w fun e w' => Backed p w (t.back s) e w' := by
  have hb := thing_below w t
  have hpl := hs.lt
  have hpw : w.heap.size ≠ p := by omega
  have hsb := hs.below (hb.drew)
  have hpb := hp.below (hb.drew)
  have HE : Hid (t.back s = (decide ((rdOf [] (takeCounted (t.p.length : Int)) s).1 = t.p), (rdOf [] (takeCounted (t.p.length : Int)) s).2)) := by unfold Hid Thing.back; rw [if_neg h0, if_neg h1, if_neg h2, if_neg h3, if_neg h4]
  have hln := ht.len
  have hx := fun W h => bytes_any (some ⟨p, 0, none⟩) (t.p.length : Int) s W h hbs (by omega) (by omega)
  have hcl : (rdOf [] (takeCounted (t.p.length : Int)) s).1.length ≤ s.1.length := by
    unfold rdOf
    split
    · simp
    · cases e : takeCounted (t.p.length : Int) s.1 with
      | error c => simp
      | ok x => obtain ⟨x, u⟩ := x; exact (takeCounted_len e).1
  generalize rdOf [] (takeCounted (t.p.length : Int)) s = x at *
  clear hs hp
  obtain ⟨k, v, n, tp, ta, tc⟩ := t
  have d0 : (k == 0) = false := by simpa using h0
  have d1 : (k == 1) = false := by simpa using h1
  have d2 : (k == 2) = false := by simpa using h2
  have d3 : (k == 3) = false := by simpa using h3
  have d4 : (k == 4) = false := by simpa using h4
  have d5 : (k == 5) = false := by simpa using h5
  clear h0 h1 h2 h3 h4 h5
  go_enter Try.func11, Try.ntmps11
  go_wp2_with fail
  refine wp_region_held_drew (S := (fun w' => w'.cell? ⟨w.heap.size, 3, none⟩ = some (.slice ta tp.length tc) ∧ RowB w' ta tp)) (by kernel_rfl) ?_ (fun hHeld => ?_)
  · exact ⟨by show (w.alloc _).cell? ⟨w.heap.size, 3, none⟩ = _; rw [cell_of_row _ _ _ _ _ _ (heap_alloc_new w _)]; rfl, hpb⟩
  refine take_on (i := 0) (v := ?_) rfl rfl (by kernel_rfl) (by kernel_rfl) (by kernel_rfl) (fun _ _ _ h => h) rfl ?_ hHeld ?_
  rotate_left
  · (intro wq hSq; obtain ⟨hq0, hq1⟩ := hSq; go_simp <;> first | with_reducible rfl | rfl)
  simp only [Act.put, List.setIfInBounds_toArray, List.set_cons_zero, List.set_cons_succ]
  refine take_on (i := 1) (v := ?_) rfl rfl (by kernel_rfl) (by kernel_rfl) (by kernel_rfl) (fun _ _ _ h => h) rfl ?_ hHeld ?_
  rotate_left
  · (intro wq hSq; obtain ⟨hq0, hq1⟩ := hSq; go_simp <;> first | with_reducible rfl | rfl)
  simp only [Act.put, List.setIfInBounds_toArray, List.set_cons_zero, List.set_cons_succ]
  refine take_on (i := 2) (v := ?_) rfl rfl (by kernel_rfl) (by kernel_rfl) (by kernel_rfl) (fun _ _ _ h => h) rfl ?_ hHeld ?_
  rotate_left
  · (intro wq hSq; obtain ⟨hq0, hq1⟩ := hSq; go_simp <;> first | with_reducible rfl | rfl)
  simp only [Act.put, List.setIfInBounds_toArray, List.set_cons_zero, List.set_cons_succ]
  refine take_on (i := 3) (v := ?_) rfl rfl (by kernel_rfl) (by kernel_rfl) (by kernel_rfl) (fun _ _ _ h => h) rfl ?_ hHeld ?_
  rotate_left
  · (intro wq hSq; obtain ⟨hq0, hq1⟩ := hSq; go_simp <;> first | with_reducible rfl | rfl)
  simp only [Act.put, List.setIfInBounds_toArray, List.set_cons_zero, List.set_cons_succ]
  refine take_on (i := 5) (v := ?_) rfl rfl (by kernel_rfl) (by kernel_rfl) (by kernel_rfl) (fun _ _ _ h => h) rfl ?_ hHeld ?_
  rotate_left
  · (intro wq hSq; obtain ⟨hq0, hq1⟩ := hSq; go_simp <;> first | with_reducible rfl | rfl)
  simp only [Act.put, List.setIfInBounds_toArray, List.set_cons_zero, List.set_cons_succ]
  refine take_on (i := 6) (v := ?_) rfl rfl (by kernel_rfl) (by kernel_rfl) (by kernel_rfl) (fun _ _ _ h => h) rfl ?_ hHeld ?_
  rotate_left
  · (intro wq hSq; obtain ⟨hq0, hq1⟩ := hSq; go_simp <;> first | with_reducible rfl | rfl)
  simp only [Act.put, List.setIfInBounds_toArray, List.set_cons_zero, List.set_cons_succ]
  refine take_one (i := 4) rfl (by kernel_rfl) (fun K hK => ?_)
  go_simp
  refine (hx _ hsb).mono ?_; rintro e w1 ⟨⟨r1, rfl, ho1⟩, hs1, hg1⟩; obtain ⟨a1, c1, hr1, hw1, _, _, _⟩ := ho1.row; subst hr1
  try go_wp2_with fail
  refine hK.out _ _ ?_ (fun hHeld => ?_)
  · exact ⟨cell_kept hHeld.1 (by simp) hpw hg1, keepRow hHeld.2 hsb hg1⟩
  clear hK K
  try simp only [Act.put, List.setIfInBounds_toArray, List.set_cons_zero, List.set_cons_succ]
  refine take_one (i := 7) rfl (by kernel_rfl) (fun K hK => ?_)
  go_simp
  refine (equal_any a1 ta c1 tc x.1 tp _ hw1 hHeld.2 (by unfold maxLen; omega) (by unfold maxLen; omega)).mono ?_; rintro e w2 ⟨rfl, q2, rfl⟩
  try go_wp2_with fail
  refine hK.out _ _ ?_ (fun hHeld => ?_)
  · exact ⟨hHeld.1, hHeld.2.below (below_drewN (Below.refl _ _) q2)⟩
  clear hK K
  try simp only [Act.put, List.setIfInBounds_toArray, List.set_cons_zero, List.set_cons_succ]
  refine take_on (i := 8) (v := ?_) rfl rfl (by kernel_rfl) (by kernel_rfl) (by kernel_rfl) (fun _ _ _ h => h) rfl ?_ hHeld ?_
  rotate_left
  · (intro wq hSq; obtain ⟨hq0, hq1⟩ := hSq; go_simp <;> first | with_reducible rfl | rfl)
  simp only [Act.put, List.setIfInBounds_toArray, List.set_cons_zero, List.set_cons_succ]
  refine wpAnyH_done (by kernel_rfl) ?_ _
  go_wp2_with fail
  go_ret
  rw [HE.out]
  exact ⟨rfl, hs1.below (below_drewN (Below.refl _ _) q2), grown_post (grown_pre hb.drew hg1) (below_drewN (Below.refl _ _) q2)⟩
theorem back_any (p : Nat) (t : Thing) (s : List Nat × Nat) (w : World) (ht : t.Ok) (hp : RowB w t.a t.p) (hs : Rst w (some ⟨p, 0, none⟩) s) (hbs : s.1.length ≤ 140737488355328) :
    Calls Try.prog 11 #[.pointer (some ⟨p, 0, none⟩), thingV t] w fun e w' => Backed p w (t.back s) e w' := by
  by_cases k0 : t.k = 0
  · exact back0 p t s w ht k0 hp hs hbs
  by_cases k1 : t.k = 1
  · exact back1 p t s w ht k1 hp hs hbs
  by_cases k2 : t.k = 2
  · exact back2 p t s w ht k2 hp hs hbs
  by_cases k3 : t.k = 3
  · exact back3 p t s w ht k3 hp hs hbs
  by_cases k4 : t.k = 4
  · exact back4 p t s w ht k4 hp hs hbs
  by_cases k5 : t.k = 5
  · exact back5 p t s w ht k5 hp hs hbs
  exact back6 p t s w ht k0 k1 k2 k3 k4 k5 hp hs hbs
end Go.Proofs.Ytfhinodieghklab
