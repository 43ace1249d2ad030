/- Put, Delete, Get; going through the map in whatever order; Bytes. -/
import Derived.Test.YtbafjkanbbcbgaaXw5
namespace Go.Proofs.Ytbafjkanbbcbgaa
open Go.RowKit Go.Maps

/-- What is handed to Put, and to Delete. -/
def putX (k : ByteArray) (a : Option Addr) (z : List Nat) (c : Nat) : Vn := ⟨k, 0, a, z, c, false⟩
def delX (k : ByteArray) : Vn := ⟨k, 0, none, [], 0, true⟩
theorem build_put (w : World) (k : ByteArray) (a : Option Addr) (n c : Nat) : (Instr.build 41 #[(0, .string k), (2, .slice a n c)]).run Try.prog w = .ok (.agg #[.string k, .int .i64 0, .slice a n c, .bool false]) w := by kernel_rfl
theorem build_del (w : World) (k : ByteArray) : (Instr.build 41 #[(0, .string k), (3, .bool true)]).run Try.prog w = .ok (.agg #[.string k, .int .i64 0, .slice none 0 0, .bool true]) w := by kernel_rfl

section
variable {w w' : World} {F : Nat → Prop} {s : Nat} {mb : Option Nat} {M : List Vn}
theorem write_any (h : Wst w F s mb M) (x : Vn) (hr : RowB w x.a x.z) (hnil : x.a = none → x.z.length = 0 ∧ x.c = 0) (hn : x.n = 0) (hl : M.length + 1 ≤ 4000000000000) :
    Calls Try.prog 37 #[.pointer (some ⟨s, 0, none⟩), verV x] w fun e w' => e = .returned (.int .i64 (errA x.k x.z)) ∧ Wrote w F s (writeA (saysV M) x) w' := by
  unfold writeA
  by_cases he : errA x.k x.z = 0
  · rw [if_pos he, he]
    cases mb with
    | some b => exact write_some h x hr hnil hn he hl
    | none => exact write_none_map h x hr hnil hn he hl
  · rw [if_neg he]
    exact (write_no s x w he).mono fun e w' ⟨h1, h2⟩ => ⟨h1, h.stays h2⟩
set_option maxRecDepth 100000 in
theorem put_any (h : Wst w F s mb M) (k : ByteArray) (a : Option Addr) (z : List Nat) (c : Nat) (hr : RowB w a z) (hnil : a = none → z.length = 0 ∧ c = 0) (hl : M.length + 1 ≤ 4000000000000) :
    Calls Try.prog 15 #[.pointer (some ⟨s, 0, none⟩), .string k, .slice a z.length c] w fun e w' => e = .returned (.int .i64 (errA k z)) ∧ Wrote w F s (writeA (saysV M) (putX k a z c)) w' := by
  have hw := write_any h (putX k a z c) hr hnil rfl hl
  have hb := build_put
  simp only [verV, putX] at hw ⊢
  clear h hr hnil
  go_enter Try.func15, Try.ntmps15
  go_wp2_with fail
  refine hw.mono ?_
  rintro e w1 ⟨rfl, h1⟩
  have H1 := hide_it h1
  clear h1
  go_wp2
  go_ret
  exact ⟨rfl, H1.out⟩
set_option maxRecDepth 100000 in
theorem delete_any (h : Wst w F s mb M) (k : ByteArray) (hl : M.length + 1 ≤ 4000000000000) :
    Calls Try.prog 16 #[.pointer (some ⟨s, 0, none⟩), .string k] w fun e w' => e = .returned (.int .i64 (errA k [])) ∧ Wrote w F s (writeA (saysV M) (delX k)) w' := by
  have hw := write_any h (delX k) (.inl rfl) (fun _ => ⟨rfl, rfl⟩) rfl hl
  have hb := build_del
  simp only [verV, delX, List.length_nil] at hw ⊢
  clear h
  go_enter Try.func16, Try.ntmps16
  go_wp2_with fail
  refine hw.mono ?_
  rintro e w1 ⟨rfl, h1⟩
  have H1 := hide_it h1
  clear h1
  go_wp2
  go_ret
  exact ⟨rfl, H1.out⟩
end
theorem put_none (k : ByteArray) (a : Option Addr) (n c : Nat) (w : World) : Calls Try.prog 15 #[.pointer none, .string k, .slice a n c] w fun e w' => e = .returned (.int .i64 1) ∧ Below w.heap.size w w' := by
  have hw := write_none (verV ⟨k, 0, a, List.replicate n 0, c, false⟩) w _ rfl
  have hb := build_put
  simp only [verV, List.length_replicate] at hw
  go_enter Try.func15, Try.ntmps15
  go_wp2_with fail
  refine hw.mono ?_
  rintro e w1 ⟨rfl, h1⟩
  go_wp2
  go_ret
  exact ⟨rfl, h1⟩
theorem delete_none (k : ByteArray) (w : World) : Calls Try.prog 16 #[.pointer none, .string k] w fun e w' => e = .returned (.int .i64 1) ∧ Below w.heap.size w w' := by
  have hw := write_none (verV (delX k)) w _ rfl
  have hb := build_del
  simp only [verV, delX, List.length_nil] at hw
  go_enter Try.func16, Try.ntmps16
  go_wp2_with fail
  refine hw.mono ?_
  rintro e w1 ⟨rfl, h1⟩
  go_wp2
  go_ret
  exact ⟨rfl, h1⟩

/-! ### Get -/
def getA (C : Wc) (k : List UInt8) : Option (List UInt8 × Ver) := (getW C k).map fun v => (k, v)

set_option maxRecDepth 100000 in
set_option maxHeartbeats 1000000 in
/-- Get, by what the look-up answers. -/
theorem get_core (p : Option Addr) (mb : Option Nat) (key : ByteArray) (x : Vn) (is : Bool) (w : World)
    (ha : Calls Try.prog 33 #[.pointer p] (w.alloc (.cells #[.string ⟨#[]⟩, .int .i64 0, .slice none 0 0, .bool false] 41)) fun e w' => e = .returned (.map mb) ∧ w' = w.alloc (.cells #[.string ⟨#[]⟩, .int .i64 0, .slice none 0 0, .bool false] 41))
    (hl : (Instr.lookup 30 (.map mb) (.string key) true).run Try.prog (w.alloc (.cells #[.string ⟨#[]⟩, .int .i64 0, .slice none 0 0, .bool false] 41)) = .ok (.tuple #[verV x, .bool is]) (w.alloc (.cells #[.string ⟨#[]⟩, .int .i64 0, .slice none 0 0, .bool false] 41)))
    (hr : RowB w x.a x.z) (hz : x.z.length ≤ 140737488355328) (hnil : x.a = none → x.z.length = 0 ∧ x.c = 0) :
    Calls Try.prog 13 #[.pointer p, .string key] w fun e w' => (∃ a c, e = .returned (.tuple #[verV (movX x a c), .bool is]) ∧ OwnB w' w.heap.size (.slice a x.z.length c) x.z) ∧ Below w.heap.size w w' := by
  obtain ⟨W, hW⟩ : ∃ W, W = w.alloc (.cells #[.string ⟨#[]⟩, .int .i64 0, .slice none 0 0, .bool false] 41) := ⟨_, rfl⟩
  have hb : Below w.heap.size w W := by rw [hW]; exact (Below.refl _ _).alloc (Nat.le_refl _) _
  have hzW : W.heap.size = w.heap.size + 1 := by rw [hW]; simp
  have k0 : W.heap[w.heap.size]? = some (.cells #[.string ⟨#[]⟩, .int .i64 0, .slice none 0 0, .bool false] 41 (0, 0)) := by rw [hW]; exact heap_alloc_new w _
  rw [← hW] at ha hl
  obtain ⟨k, n, a, z, c, d⟩ := x
  simp only [verV, movX] at *
  obtain ⟨W2, hW2⟩ : ∃ W2, W2 = W.alloc (.cells #[.string k, .int .i64 n, .slice a z.length c, .bool d] 41) := ⟨_, rfl⟩
  have hb2 : Below W.heap.size W W2 := by rw [hW2]; exact (Below.refl _ _).alloc (Nat.le_refl _) _
  have hz2 : W2.heap.size = w.heap.size + 2 := by rw [hW2]; simp [hzW]
  have k1 : W2.heap[w.heap.size]? = some (.cells #[.string ⟨#[]⟩, .int .i64 0, .slice none 0 0, .bool false] 41 (0, 0)) := (hb2.block _ (by omega)).trans k0
  have k2 : W2.heap[w.heap.size + 1]? = some (.cells #[.string k, .int .i64 n, .slice a z.length c, .bool d] 41 (0, 0)) := by rw [hW2, ← hzW]; exact heap_alloc_new W _
  have m0 := cell_of_row _ _ 0 _ _ _ k2
  have m1 := cell_of_row _ _ 1 _ _ _ k2
  have m2 := cell_of_row _ _ 2 _ _ _ k2
  have m3 := cell_of_row _ _ 3 _ _ _ k2
  have hnw := anew_any ⟨k, n, a, z, c, d⟩ W2 ((hr.below hb).below hb2) hz hnil
  simp only [verV, movX] at hnw
  have hbw := hb.trans (hb2.mono hb.size)
  clear hr hnil k0
  go_enter Try.func13, Try.ntmps13
  go_wp2_with fail
  rw [← hW]
  clear hW
  refine ha.mono ?_
  rintro e w1 ⟨rfl, hw1⟩
  obtain rfl := hw1.symm
  clear hw1 ha
  go_wp2_with fail
  rw [← hW2]
  clear hW2
  go_wp2_with fail
  refine hnw.mono ?_
  rintro e w3 ⟨⟨a9, c9, rfl, hv⟩, hb3⟩
  have hz3 := hb3.size
  have q1 := (hb3.block _ (by omega)).trans k1
  have f1 := fun j => frozen_of_row w3 _ j _ _ q1
  have g0 := cell_of_row _ _ 0 _ _ _ q1
  have g1 := cell_of_row _ _ 1 _ _ _ q1
  have g2 := cell_of_row _ _ 2 _ _ _ q1
  have g3 := cell_of_row _ _ 3 _ _ _ q1
  have HV : Hid (∀ w5, (∀ j, w.heap.size + 2 ≤ j → w5.heap[j]? = w3.heap[j]?) → OwnB w5 w.heap.size (.slice a9 z.length c9) z) := hide_it fun w5 h5 => (hv.hold fun j hj => h5 j (by have := hv.ge hj; omega)).mono (by omega)
  have HB := hide_it (hbw.trans (hb3.mono hbw.size))
  clear hnw hv hb3 q1 k1 k2 hbw hb hb2 m0 m1 m2 m3
  go_wp2
  refine bodyPost_ret (v := .tuple #[.agg #[.string k, .int .i64 n, .slice a9 z.length c9, .bool d], .bool is]) (by simp [results, Try.results13, g0, g1, g2, g3, go_sem]) rfl ⟨⟨a9, c9, rfl, HV.out _ fun j hj => ?_⟩, ?_⟩
  · rw [Below.heap_setCell _ _ _ _ (by show j ≠ w.heap.size; omega), Below.heap_setCell _ _ _ _ (by show j ≠ w.heap.size; omega), Below.heap_setCell _ _ _ _ (by show j ≠ w.heap.size; omega), Below.heap_setCell _ _ _ _ (by show j ≠ w.heap.size; omega)]
  · exact (((HB.out.setCell (p := ⟨w.heap.size, 0, none⟩) (Nat.le_refl _) _).setCell (p := ⟨w.heap.size, 1, none⟩) (Nat.le_refl _) _).setCell (p := ⟨w.heap.size, 2, none⟩) (Nat.le_refl _) _).setCell (p := ⟨w.heap.size, 3, none⟩) (Nat.le_refl _) _

section
variable {w w' : World} {F : Nat → Prop} {s : Nat} {mb : Option Nat} {M : List Vn}
theorem OwnB.rowN {w : World} {B : Nat} {a : Option Addr} {c : Nat} {zs : List Nat} (h : OwnB w B (.slice a zs.length c) zs) : RowB w a zs ∧ (a = none → zs.length = 0 ∧ c = 0) := by
  obtain ⟨a', c', e, h1, _, _, h2⟩ := h.row
  cases e
  exact ⟨h1, h2⟩
theorem get_any (h : Wst w F s mb M) (key : ByteArray) (hk : key.size ≤ maxLen) :
    Calls Try.prog 13 #[.pointer (some ⟨s, 0, none⟩), .string key] w fun e w' => (∃ v, e = .returned (.tuple #[v, .bool (getA (saysV M) key.data.toList).isSome]) ∧ (∃ y : Vn, v = verV y ∧ OwnB w' w.heap.size (.slice y.a y.z.length y.c) y.z ∧ y.z.length ≤ 4096 ∧ (∀ t, getA (saysV M) key.data.toList = some t → (ky y, verOf y) = t) ∧ (getA (saysV M) key.data.toList = none → (ky y, verOf y) = ([], ⟨0, [], false⟩)))) ∧ Below w.heap.size w w' := by
  have hb : Below w.heap.size w (w.alloc (.cells #[.string ⟨#[]⟩, .int .i64 0, .slice none 0 0, .bool false] 41)) := (Below.refl _ _).alloc (Nat.le_refl _) _
  have h2 := h.below hb
  have hx : RowB w ((vnOf M key.data.toList).getD zeroVn).a ((vnOf M key.data.toList).getD zeroVn).z ∧ ((vnOf M key.data.toList).getD zeroVn).z.length ≤ 4096 ∧ (((vnOf M key.data.toList).getD zeroVn).a = none → ((vnOf M key.data.toList).getD zeroVn).z.length = 0 ∧ ((vnOf M key.data.toList).getD zeroVn).c = 0) := by
    cases he : vnOf M key.data.toList with
    | none => exact ⟨.inl rfl, by decide, fun _ => ⟨rfl, rfl⟩⟩
    | some e =>
      have hm := (vnOf_some he).1
      have := (h.each e hm).b.rowN
      exact ⟨this.1, (h.kz hm).2.2.1, this.2⟩
  refine (get_core _ mb key _ _ w (all_any h2) (look_any h2 key hk) hx.1 (by have := hx.2.1; omega) hx.2.2).mono ?_
  rintro e w' ⟨⟨a, c, rfl, hv⟩, hb'⟩
  have hg : getA (saysV M) key.data.toList = (vnOf M key.data.toList).map fun e => (ky e, verOf e) := by
    unfold getA
    rw [getW_says]
    cases he : vnOf M key.data.toList with
    | none => rfl
    | some e => show some (_, _) = some (_, _); rw [(vnOf_some he).2]
  rw [hg, Option.isSome_map]
  refine ⟨⟨_, rfl, movX _ a c, rfl, hv, hx.2.1, fun t ht => ?_, fun ht => ?_⟩, hb'⟩
  · cases he : vnOf M key.data.toList with
    | none => rw [he] at ht; cases ht
    | some e => rw [he] at ht; cases ht; rfl
  · cases he : vnOf M key.data.toList with
    | none => rfl
    | some e => rw [he] at ht; cases ht
end
theorem get_none (key : ByteArray) (hk : key.size ≤ maxLen) (w : World) :
    Calls Try.prog 13 #[.pointer none, .string key] w fun e w' => (∃ y : Vn, e = .returned (.tuple #[verV y, .bool false]) ∧ OwnB w' w.heap.size (.slice y.a y.z.length y.c) y.z ∧ y.z.length ≤ 4096 ∧ (ky y, verOf y) = ([], ⟨0, [], false⟩)) ∧ Below w.heap.size w w' := by
  have hkey := WideMaps.keyOf_string_mk (P := Try.prog) Try.underlying9 hk
  refine (get_core none none key zeroVn false w (all_none _) (Maps.look_nil true law_string Try.underlying30 (zeroVer _) hkey) (.inl rfl) (by decide) (fun _ => ⟨rfl, rfl⟩)).mono ?_
  rintro e w' ⟨⟨a, c, rfl, hv⟩, hb⟩
  exact ⟨⟨movX zeroVn a c, rfl, hv, Nat.zero_le _, rfl⟩, hb⟩

end Go.Proofs.Ytbafjkanbbcbgaa
