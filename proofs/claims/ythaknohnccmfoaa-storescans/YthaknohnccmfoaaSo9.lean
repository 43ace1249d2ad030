/- Live; Len and Live of a map that is not there. -/
import Derived.Test.YthaknohnccmfoaaSo8
import Derived.Laws.IdiomRangeMap
namespace Go.Proofs.Ythaknohnccmfoaa
open Go.RowKit Go.Maps

/-- The bytes that a key's newest pair has. -/
def liveK (k : List UInt8) (ls : List Ver) : Nat := match live (if ls.length = 0 then none else some (vr ls (ls.length - 1))) with | none => 0 | some z => k.length + z.length
def liveA (A : Cont) : Nat := (A.map fun e => liveK e.1 e.2).sum
theorem kyOf_mem {M : List Ky} (hr : M.Pairwise fun e f => bytesBefore e.k f.k = true) {e : Ky} (he : e ∈ M) : kyOf M e.k = some e := by
  cases hk : kyOf M e.k with
  | none => exact absurd rfl (kyOf_none hk e he)
  | some f => obtain ⟨hf, e1⟩ := kyOf_some hk; rw [one_key hr hf he e1]
theorem liveK_le {k : List UInt8} {ls : List Ver} (hk : k.length ≤ 255) (hl : ∀ l ∈ ls, l.b.length ≤ 4096) : liveK k ls ≤ 4351 := by
  unfold liveK live
  by_cases h0 : ls.length = 0
  · rw [if_pos h0]; simp
  · rw [if_neg h0]
    have := hl _ (vr_mem (ls := ls) (i := ls.length - 1) (by omega))
    cases hd : (vr ls (ls.length - 1)).d <;> simp [hd]
    omega
theorem sum_le {α : Type} {f : α → Nat} {B : Nat} (l : List α) (h : ∀ x ∈ l, f x ≤ B) : (l.map f).sum ≤ l.length * B := by
  induction l with
  | nil => simp
  | cons x r ih =>
    have h1 := h x (List.mem_cons_self ..)
    have h2 := ih fun y hy => h y (List.mem_cons_of_mem _ hy)
    rw [List.map_cons, List.sum_cons, List.length_cons, Nat.succ_mul]; omega
theorem liveA_abs (M : List Ky) : liveA (abs M) = (M.map fun e => liveK e.k e.ls).sum := by unfold liveA abs; rw [List.map_map]; rfl
theorem live_le {M : List Ky} (hf : Fine (abs M)) : (M.map fun e => liveK e.k e.ls).sum ≤ 17404000000000000 := by
  have h1 := sum_le (f := fun e : Ky => liveK e.k e.ls) (B := 4351) M fun e he => liveK_le (hf.kl (e.k, e.ls) (List.mem_map.2 ⟨e, he, rfl⟩)) (hf.vl (e.k, e.ls) (List.mem_map.2 ⟨e, he, rfl⟩))
  have h2 := hf.keys
  unfold abs at h2
  rw [List.length_map] at h2
  have := Nat.mul_le_mul_right 4351 h2
  omega

section
variable {w : World} {F : Nat → Prop} {s : Nat} {M : List Ky}
set_option maxRecDepth 100000 in
set_option maxHeartbeats 4000000 in
theorem live_some {b : Nat} (h : Sto w F s (some b) M) (hf : Fine (abs M)) :
    Calls Try.prog 17 #[.pointer (some ⟨s, 0, none⟩)] w fun e w' => e = .returned (.int .i64 (liveA (abs M) : Int)) ∧ Below w.heap.size w w' := by
  have ha0 := all_any h
  obtain ⟨hown, hFb⟩ := h.map b rfl
  have hrise := h.rise
  have hlast : ∀ e ∈ M, ∀ z, Below w.heap.size w z → Calls Try.prog 46 #[.pointer (some ⟨e.c, 0, none⟩)] z fun e' w' => ∃ x b, e' = kY.tellL x b ∧ Below z.heap.size z w' ∧ TellsO w' F x b (if e.ls.length = 0 then none else some (vr e.ls (e.ls.length - 1))) := fun e he z hz => by
    have hk := kyOf_mem hrise he
    have h1 := chLastO (h.below hz) (k := e.k) (.inr ⟨e, hk, rfl⟩) hf.tot
    have h2 : lsOf (abs M) e.k = e.ls := by rw [lsOf_abs, hk]; rfl
    unfold lastA at h1
    rwa [h2] at h1
  have HTT := hide_it (liveA_abs M)
  have HTL := hide_it (live_le hf)
  have HL := hide_it hlast
  have HR := hide_it hrise
  clear h hf hlast hrise
  go_enter Try.func17, Try.ntmps17
  go_wp2_with fail
  refine ha0.mono ?_
  rintro e w1 ⟨rfl, hw1⟩
  obtain rfl := hw1.symm
  clear ha0 hw1
  go_wp2_with (first | (at_range; refine wpList_range_own _ rfl _ 73 rfl 9 88 law_string Try.underlying73 _ b M.length _ rfl hown ?_; intro w0 hrg0 hg0 hs0) | go_in)
  go_frame
  go_loopw [3, 4, 5, 6, 7] (fun t3 _ _ _ _ wr => ∃ (left : Lit → Bool) (cnt : Nat) (vs : List Ky), wr.ranges Try.prog 9 ptrR b w.heap.size M.length (datM M) left cnt ∧ Hid (Seen M left vs) ∧ (∃ T3 : Nat, t3 = .int .i64 (T3 : Int) ∧ Hid (T3 = (vs.map fun e => liveK e.k e.ls).sum)) ∧ Below w.heap.size w wr ∧ w.heap.size < wr.heap.size)
    (fun _ _ _ _ _ wr => wr.rangeLeft b w.heap.size)
  case atStart => exact ⟨_, _, [], hrg0, hide_it (Seen.start M), ⟨0, rfl, hide_it rfl⟩, (Below.refl _ w).grown hg0 (Nat.le_refl _) (fun k e => by cases e), by omega⟩
  case round =>
    obtain ⟨left, cnt, vs, hrg, hS, ⟨T3, rfl, hT3⟩, hbw, hwz⟩ := hrel
    clear hrg0 hg0 hs0 hown
    go_wp2_with (first | (at_next; refine wpList_next_ranges _ rfl _ rfl 9 law_string ptrR encStr Value.pointer invK_str invV_ptr b w.heap.size M.length _ _ _ rfl hrg ?_ ?_) | go_in)
    · intro hc0 hl0
      have hp := hS.out.done hl0
      have hres : Hid (T3 = liveA (abs M)) := by rw [hT3.out, HTT.out]; exact hide_it (hp.map _).sum_nat
      have HBW := hide_it hbw
      clear hp hT3 hS hbw hrg
      go_wp2
      go_ret
      exact ⟨by rw [← hres.out]; rfl, HBW.out⟩
    · intro x c kl yd yp w1 cnt1 hkey hlk hv hat hrg1 hlt hg1 hs1 hen
      obtain ⟨_, e, he, rfl, rfl, hnv, hS1⟩ := hS.out.step HR.out hkey hlk hv hat
      have hb1 : Below w.heap.size w w1 := hbw.trans (grown_below hg1 (Nat.le_refl _) hbw.size)
      have hcl := HL.out e he w1 hb1
      have hbd := Nat.le_trans (hS1.sum fun e => liveK e.k e.ls) HTL.out
      have hsum : ((vs ++ [e]).map fun e => liveK e.k e.ls).sum = T3 + liveK e.k e.ls := by rw [hT3.out]; simp
      rw [hsum] at hbd
      have HS1 := hide_it hS1
      have HB1 := hide_it hb1
      have HSM := hide_it hsum
      have hm : w1.rangeLeft b w.heap.size < wr.rangeLeft b w.heap.size := by rw [hrg1.left_eq, hrg.left_eq]; exact hlt
      have hml := hrg1.left_eq
      have hbl := hrg1.owns.lt
      have hwz1 : w.heap.size < w1.heap.size := by omega
      have HRG : ∀ z, Below w1.heap.size w1 z → z.ranges Try.prog 9 ptrR b w.heap.size M.length (datM M) (fun z => left z && !z.sameKey kl) cnt1 := fun z hz => ranges_hold hrg1 (hz.block b hbl) (hz.block w.heap.size hwz1)
      have HM := hide_it (fun z hz => And.intro (HRG z hz) (show z.rangeLeft b w.heap.size < wr.rangeLeft b w.heap.size by rw [(HRG z hz).left_eq, ← hml]; exact hm))
      have hks : (⟨e.k.toArray⟩ : ByteArray).size = e.k.length := by simp [ByteArray.size]
      clear hS hS1 hT3 hsum hkey hlk hv hat hnv hs1 hg1 hrg hrg1 hlt hb1 hbw hml hm HRG
      unfold encStr at hen ⊢
      go_wp2_with fail
      refine hcl.mono ?_
      rintro e' w2 ⟨y, bb, rfl, hb2, hTo⟩
      unfold kY.tellL kY.lkV
      clear hcl
      have HB2 := hide_it hb2
      have hbx : Below w2.heap.size w2 (w2.alloc (.cells #[.int .i64 y.n, .slice y.v.1 y.v.2.1 y.v.2.2, .bool y.d] 95)) := (Below.refl _ _).alloc (Nat.le_refl _) _
      have hb3 := hb2.trans (hbx.mono hb2.size)
      have HB3 := hide_it (HB1.out.trans (hb3.mono HB1.out.size))
      obtain ⟨HRG3, HM3⟩ := HM.out _ hb3
      replace HRG3 := hide_it HRG3
      replace HM3 := hide_it HM3
      have hz3 : w.heap.size < w2.heap.size := by have := hb2.size; omega
      obtain ⟨o, ho⟩ : ∃ o, o = (if e.ls.length = 0 then none else some (vr e.ls (e.ls.length - 1))) := ⟨_, rfl⟩
      have hlk : liveK e.k e.ls = match live o with | none => 0 | some z => e.k.length + z.length := by rw [ho]; rfl
      rw [← ho] at hTo
      clear ho hb2 hbx hb3 HM
      cases o with
      | none =>
        have e1 := hTo.is
        obtain rfl : bb = false := e1
        have HLK : Hid (liveK e.k e.ls = 0) := hlk
        clear hTo hlk
        go_wp2
        go_roundw
        case rel => exact ⟨_, _, vs ++ [e], HRG3.out, HS1, ⟨T3, rfl, hide_it (by rw [HSM.out, HLK.out]; rfl)⟩, HB3.out, by simp; omega⟩
        case measure => exact HM3.out
      | some l =>
        have e1 := hTo.is
        obtain rfl : bb = true := e1
        have hl := hTo.some_ l rfl
        cases hd : l.d with
        | true =>
          have e2 : y.d = true := hl.d.trans hd
          have HLK : Hid (liveK e.k e.ls = 0) := by rw [hlk]; unfold live; simp only [hd]; exact hide_it rfl
          rw [e2] at HB3 HRG3 HM3
          clear hTo hlk hl hd
          go_wp2
          go_roundw
          case rel => exact ⟨_, _, vs ++ [e], HRG3.out, HS1, ⟨T3, rfl, hide_it (by rw [HSM.out, HLK.out]; rfl)⟩, HB3.out, by simp; omega⟩
          case measure => exact HM3.out
        | false =>
          have e2 : y.d = false := hl.d.trans hd
          obtain ⟨a, c, ev, _⟩ := hl.b.row
          injection ev with ev1 ev2 ev3
          have hlk2 : liveK e.k e.ls = e.k.length + y.v.2.1 := by rw [hlk, ev2]; unfold live; simp only [hd]; rfl
          rw [hlk2] at hbd HSM
          have hw8 : IntKind.i64.wrap ((e.k.length : Int) + (y.v.2.1 : Int)) = ((e.k.length + y.v.2.1 : Nat) : Int) := by rw [i64_in (by omega) (by omega)]; omega
          have hw9 : IntKind.i64.wrap ((T3 : Int) + ((e.k.length : Int) + (y.v.2.1 : Int))) = ((T3 + (e.k.length + y.v.2.1) : Nat) : Int) := by rw [i64_in (by omega) (by omega)]; omega
          have HW9 := hide_it hw9
          rw [e2] at HB3 HRG3 HM3
          clear hTo hlk hl hd hlk2 hbd ev1 ev2 ev3
          go_wp2
          go_roundw
          case rel => exact ⟨_, _, vs ++ [e], HRG3.out, HS1, ⟨T3 + (e.k.length + y.v.2.1), by first | rfl | exact congrArg (Value.int .i64) HW9.out, hide_it HSM.out.symm⟩, HB3.out, by simp; omega⟩
          case measure => exact HM3.out
end

/-! ### no map -/
set_option maxRecDepth 100000 in
set_option maxHeartbeats 1000000 in
theorem len_nil (p : Option Addr) (w : World) (ha : ∀ z, Below w.heap.size w z → Calls Try.prog 41 #[.pointer p] z fun e w' => e = .returned (.map none) ∧ w' = z) :
    Calls Try.prog 22 #[.pointer p] w fun e w' => e = .returned (.tuple #[.int .i64 0, .int .i64 0]) ∧ Below w.heap.size w w' := by
  have ha0 := ha w (Below.refl _ _)
  have hb : Below w.heap.size w (w.alloc (.mapIter none 0 #[] 0)) := (Below.refl _ _).alloc (Nat.le_refl _) _
  have ha1 := ha _ hb
  have hrg := run_range_nilMap (P := Try.prog) w 73 9 88 Try.underlying73
  have hnx : ∀ ty, (Instr.next (.pointer (some ⟨w.heap.size, 0, none⟩)) false ty).run Try.prog (w.alloc (.mapIter none 0 #[] 0)) = _ := fun ty => run_next_nilMap w ty 0 0 #[]
  have hln : ∀ (w : World) ty, (Builtin.len_ #[73] ty #[.map none]).run Try.prog w = .ok (.int .i64 0) w := fun w ty => Maps.len_nil (w := w) Try.underlying73 ty
  have HB := hide_it hb
  clear ha hb
  go_enter Try.func22, Try.ntmps22
  go_wp2_with fail
  refine ha0.mono ?_
  rintro e w1 ⟨rfl, hw1⟩
  obtain rfl := hw1.symm
  clear ha0 hw1
  go_wp2_with fail
  refine wp_loop_rounds 1 ?_
  rw [rounds_succ]
  go_wp2_with fail
  refine ha1.mono ?_
  rintro e w2 ⟨rfl, hw2⟩
  obtain rfl := hw2.symm
  clear ha1 hw2
  go_wp2
  exact bodyPost_ret (v := .tuple #[.int .i64 0, .int .i64 0]) (by simp [results, Try.results22, go_sem]) rfl ⟨rfl, HB.out⟩
set_option maxRecDepth 100000 in
set_option maxHeartbeats 1000000 in
theorem live_nil (p : Option Addr) (w : World) (ha0 : Calls Try.prog 41 #[.pointer p] w fun e w' => e = .returned (.map none) ∧ w' = w) :
    Calls Try.prog 17 #[.pointer p] w fun e w' => e = .returned (.int .i64 0) ∧ Below w.heap.size w w' := by
  have hb : Below w.heap.size w (w.alloc (.mapIter none 0 #[] 0)) := (Below.refl _ _).alloc (Nat.le_refl _) _
  have hrg := run_range_nilMap (P := Try.prog) w 73 9 88 Try.underlying73
  have hnx : ∀ ty, (Instr.next (.pointer (some ⟨w.heap.size, 0, none⟩)) false ty).run Try.prog (w.alloc (.mapIter none 0 #[] 0)) = _ := fun ty => run_next_nilMap w ty 0 0 #[]
  have HB := hide_it hb
  clear hb
  go_enter Try.func17, Try.ntmps17
  go_wp2_with fail
  refine ha0.mono ?_
  rintro e w1 ⟨rfl, hw1⟩
  obtain rfl := hw1.symm
  clear ha0 hw1
  go_wp2_with fail
  refine wp_loop_rounds 1 ?_
  rw [rounds_succ]
  go_wp2
  go_ret
  exact ⟨rfl, HB.out⟩
set_option maxRecDepth 100000 in
set_option maxHeartbeats 1000000 in
theorem vacuum_nil (p : Option Addr) (n : Int) (w : World) (ha0 : Calls Try.prog 41 #[.pointer p] w fun e w' => e = .returned (.map none) ∧ w' = w) :
    Calls Try.prog 23 #[.pointer p, .int .i64 n] w fun e w' => e = .returned (.int .i64 0) ∧ Below w.heap.size w w' := by
  have hb : Below w.heap.size w (w.alloc (.mapIter none 0 #[] 0)) := (Below.refl _ _).alloc (Nat.le_refl _) _
  have hrg := run_range_nilMap (P := Try.prog) w 73 9 88 Try.underlying73
  have hnx : ∀ ty, (Instr.next (.pointer (some ⟨w.heap.size, 0, none⟩)) false ty).run Try.prog (w.alloc (.mapIter none 0 #[] 0)) = _ := fun ty => run_next_nilMap w ty 0 0 #[]
  have HB := hide_it hb
  clear hb
  go_enter Try.func23, Try.ntmps23
  go_wp2_with fail
  refine ha0.mono ?_
  rintro e w1 ⟨rfl, hw1⟩
  obtain rfl := hw1.symm
  clear ha0 hw1
  go_wp2_with fail
  refine wp_loop_rounds 1 ?_
  rw [rounds_succ]
  go_wp2
  go_ret
  exact ⟨rfl, HB.out⟩
theorem len_any {w : World} {F : Nat → Prop} {s : Nat} {mb : Option Nat} {M : List Ky} (h : Sto w F s mb M) (hf : Fine (abs M)) :
    Calls Try.prog 22 #[.pointer (some ⟨s, 0, none⟩)] w fun e w' => e = .returned (.tuple #[.int .i64 ((abs M).length : Int), .int .i64 (tot (abs M) : Int)]) ∧ Below w.heap.size w w' := by
  cases mb with
  | some b => rw [show (abs M).length = M.length by simp [abs]]; exact len_some h hf
  | none =>
    obtain rfl := h.nomap rfl
    exact len_nil _ w fun z hz => all_any (h.below hz)
theorem live_any {w : World} {F : Nat → Prop} {s : Nat} {mb : Option Nat} {M : List Ky} (h : Sto w F s mb M) (hf : Fine (abs M)) :
    Calls Try.prog 17 #[.pointer (some ⟨s, 0, none⟩)] w fun e w' => e = .returned (.int .i64 (liveA (abs M) : Int)) ∧ Below w.heap.size w w' := by
  cases mb with
  | some b => exact live_some h hf
  | none =>
    obtain rfl := h.nomap rfl
    exact live_nil _ w (all_any h)

end Go.Proofs.Ythaknohnccmfoaa
