/- Things put by the program: what laying one answers. -/
import Derived.Test.YtfhinodieghklabTh1
import Derived.Test.YtfhinodieghklabBy5
namespace Go.Proofs.Ytfhinodieghklab
open Go.RowKit

/-- A thing as a value. -/
abbrev thingV (t : Thing) : Value := .agg #[.int .i64 t.k, .int .u64 (t.v : Int), .int .i64 t.n, .slice t.a t.p.length t.c]
abbrev thingW (w : World) (t : Thing) : World := w.alloc (.cells #[.int .i64 t.k, .int .u64 (t.v : Int), .int .i64 t.n, .slice t.a t.p.length t.c] 26)
theorem thing_below (w : World) (t : Thing) : Below w.heap.size w (thingW w t) := (Below.refl _ _).alloc (Nat.le_refl _) _
/-- What comes of laying a thing. -/
def Laid (w : World) (l : List Nat) (e : Ending) (w' : World) : Prop := (∃ r, e = .returned r ∧ OwnB w' w.heap.size r l) ∧ Below w.heap.size w w'
theorem Laid.pre {w w1 w' : World} {l : List Nat} {e : Ending} (hb : Below w.heap.size w w1) (h : (∃ r, e = .returned r ∧ OwnB w' w1.heap.size r l) ∧ Below w1.heap.size w1 w') : Laid w l e w' := by
  obtain ⟨⟨r, h1, h2⟩, h3⟩ := h
  exact ⟨⟨r, h1, h2.mono hb.size⟩, hb.trans (h3.mono hb.size)⟩

theorem wrap16 (y : Nat) : IntKind.u16.wrap (y : Int) = ((y % 65536 : Nat) : Int) := by
  simp [IntKind.wrap, IntKind.bits, IntKind.signed]
theorem wrap32 (y : Nat) : IntKind.u32.wrap (y : Int) = ((y % 4294967296 : Nat) : Int) := by
  simp [IntKind.wrap, IntKind.bits, IntKind.signed]

set_option maxRecDepth 100000 in
set_option maxHeartbeats 400000 in
theorem laid0 (a : Option Addr) (cap : Nat) (zs : List Nat) (t : Thing) (w : World) (_ht : t.Ok) (hk : t.k = 0) (_hp : RowB w t.a t.p) (hr : RowB w a zs) (hl : zs.length + 1048586 ≤ 140737488355328) (hnil : a = none → zs.length = 0 ∧ cap = 0) :
    Calls Try.prog 9 #[.slice a zs.length cap, thingV t] w fun e w' => Laid w (zs ++ t.enc) e w' := by
  have hb := thing_below w t
  have hx := put8 a cap (t.v % 256) zs _ (by omega) (hr.below hb) (by omega) hnil
  have HE : Hid (t.enc = beP 1 (t.v % 256) 1) := by unfold Hid Thing.enc; rw [if_pos hk]
  have hw : IntKind.u8.wrap (t.v : Int) = ((t.v % 256 : Nat) : Int) := wrap_byte t.v
  clear _ht _hp
  obtain ⟨k, v, n, p, ta, tc⟩ := t
  simp only at hk
  subst hk
  clear hr
  go_enter Try.func9, Try.ntmps9
  go_wp2_with fail
  refine hx.mono ?_
  intro e w1 h1
  have h2 := Laid.pre hb h1
  rw [← HE.out] at h2
  obtain ⟨⟨r, rfl, ho⟩, hb1⟩ := h2
  have HO := hide_it ho
  have HB := hide_it hb1
  clear h1 hx hb ho hb1
  go_wp2_with fail
  go_ret
  exact ⟨⟨r, rfl, HO.out⟩, HB.out⟩
set_option maxRecDepth 100000 in
set_option maxHeartbeats 400000 in
theorem laid1 (a : Option Addr) (cap : Nat) (zs : List Nat) (t : Thing) (w : World) (_ht : t.Ok) (hk : t.k = 1) (_hp : RowB w t.a t.p) (hr : RowB w a zs) (hl : zs.length + 1048586 ≤ 140737488355328) (hnil : a = none → zs.length = 0 ∧ cap = 0) :
    Calls Try.prog 9 #[.slice a zs.length cap, thingV t] w fun e w' => Laid w (zs ++ t.enc) e w' := by
  have hb := thing_below w t
  have hx := put16 a cap (t.v % 65536) zs _ (by omega) (hr.below hb) (by omega) hnil
  have HE : Hid (t.enc = beP 2 (t.v % 65536) 2) := by unfold Hid Thing.enc; rw [if_neg (by omega), if_pos hk]
  have hw := wrap16 t.v
  clear _ht _hp
  obtain ⟨k, v, n, p, ta, tc⟩ := t
  simp only at hk
  subst hk
  clear hr
  go_enter Try.func9, Try.ntmps9
  go_wp2_with fail
  refine hx.mono ?_
  intro e w1 h1
  have h2 := Laid.pre hb h1
  rw [← HE.out] at h2
  obtain ⟨⟨r, rfl, ho⟩, hb1⟩ := h2
  have HO := hide_it ho
  have HB := hide_it hb1
  clear h1 hx hb ho hb1
  go_wp2_with fail
  go_ret
  exact ⟨⟨r, rfl, HO.out⟩, HB.out⟩
set_option maxRecDepth 100000 in
set_option maxHeartbeats 400000 in
theorem laid2 (a : Option Addr) (cap : Nat) (zs : List Nat) (t : Thing) (w : World) (_ht : t.Ok) (hk : t.k = 2) (_hp : RowB w t.a t.p) (hr : RowB w a zs) (hl : zs.length + 1048586 ≤ 140737488355328) (hnil : a = none → zs.length = 0 ∧ cap = 0) :
    Calls Try.prog 9 #[.slice a zs.length cap, thingV t] w fun e w' => Laid w (zs ++ t.enc) e w' := by
  have hb := thing_below w t
  have hx := put32 a cap (t.v % 4294967296) zs _ (by omega) (hr.below hb) (by omega) hnil
  have HE : Hid (t.enc = beP 4 (t.v % 4294967296) 4) := by unfold Hid Thing.enc; rw [if_neg (by omega), if_neg (by omega), if_pos hk]
  have hw := wrap32 t.v
  clear _ht _hp
  obtain ⟨k, v, n, p, ta, tc⟩ := t
  simp only at hk
  subst hk
  clear hr
  go_enter Try.func9, Try.ntmps9
  go_wp2_with fail
  refine hx.mono ?_
  intro e w1 h1
  have h2 := Laid.pre hb h1
  rw [← HE.out] at h2
  obtain ⟨⟨r, rfl, ho⟩, hb1⟩ := h2
  have HO := hide_it ho
  have HB := hide_it hb1
  clear h1 hx hb ho hb1
  go_wp2_with fail
  go_ret
  exact ⟨⟨r, rfl, HO.out⟩, HB.out⟩
set_option maxRecDepth 100000 in
set_option maxHeartbeats 400000 in
theorem laid3 (a : Option Addr) (cap : Nat) (zs : List Nat) (t : Thing) (w : World) (ht : t.Ok) (hk : t.k = 3) (_hp : RowB w t.a t.p) (hr : RowB w a zs) (hl : zs.length + 1048586 ≤ 140737488355328) (hnil : a = none → zs.length = 0 ∧ cap = 0) :
    Calls Try.prog 9 #[.slice a zs.length cap, thingV t] w fun e w' => Laid w (zs ++ t.enc) e w' := by
  have hb := thing_below w t
  have hx := put64 a cap t.v zs _ ht.v64 (hr.below hb) (by omega) hnil
  have HE : Hid (t.enc = beP 8 t.v 8) := by unfold Hid Thing.enc; rw [if_neg (by omega), if_neg (by omega), if_neg (by omega), if_pos hk]
  clear ht _hp
  obtain ⟨k, v, n, p, ta, tc⟩ := t
  simp only at hk
  subst hk
  clear hr
  go_enter Try.func9, Try.ntmps9
  go_wp2_with fail
  refine hx.mono ?_
  intro e w1 h1
  have h2 := Laid.pre hb h1
  rw [← HE.out] at h2
  obtain ⟨⟨r, rfl, ho⟩, hb1⟩ := h2
  have HO := hide_it ho
  have HB := hide_it hb1
  clear h1 hx hb ho hb1
  go_wp2_with fail
  go_ret
  exact ⟨⟨r, rfl, HO.out⟩, HB.out⟩
set_option maxRecDepth 100000 in
set_option maxHeartbeats 400000 in
theorem laid4 (a : Option Addr) (cap : Nat) (zs : List Nat) (t : Thing) (w : World) (ht : t.Ok) (hk : t.k = 4) (_hp : RowB w t.a t.p) (hr : RowB w a zs) (hl : zs.length + 1048586 ≤ 140737488355328) (hnil : a = none → zs.length = 0 ∧ cap = 0) :
    Calls Try.prog 9 #[.slice a zs.length cap, thingV t] w fun e w' => Laid w (zs ++ t.enc) e w' := by
  have hb := thing_below w t
  have hx := putInt_any a cap t.n zs _ ht.n1 ht.n2 (hr.below hb) (by omega) hnil
  have HE : Hid (t.enc = shortL (foldI t.n)) := by unfold Hid Thing.enc; rw [if_neg (by omega), if_neg (by omega), if_neg (by omega), if_neg (by omega), if_pos hk]
  clear ht _hp
  obtain ⟨k, v, n, p, ta, tc⟩ := t
  simp only at hk
  subst hk
  clear hr
  go_enter Try.func9, Try.ntmps9
  go_wp2_with fail
  refine hx.mono ?_
  intro e w1 h1
  have h2 := Laid.pre hb h1
  rw [← HE.out] at h2
  obtain ⟨⟨r, rfl, ho⟩, hb1⟩ := h2
  have HO := hide_it ho
  have HB := hide_it hb1
  clear h1 hx hb ho hb1
  go_wp2_with fail
  go_ret
  exact ⟨⟨r, rfl, HO.out⟩, HB.out⟩
set_option maxRecDepth 100000 in
set_option maxHeartbeats 400000 in
theorem laid5 (a : Option Addr) (cap : Nat) (zs : List Nat) (t : Thing) (w : World) (ht : t.Ok) (hk : t.k = 5) (hp : RowB w t.a t.p) (hr : RowB w a zs) (hl : zs.length + 1048586 ≤ 140737488355328) (hnil : a = none → zs.length = 0 ∧ cap = 0) :
    Calls Try.prog 9 #[.slice a zs.length cap, thingV t] w fun e w' => Laid w (zs ++ t.enc) e w' := by
  have hb := thing_below w t
  have hx := putText_any a cap (strOf t.p) zs _ (hr.below hb) (by rw [strOf_size]; have := ht.len; omega) hnil
  have HE : Hid (t.enc = shortL (2 * t.p.length) ++ t.p) := by unfold Hid Thing.enc; rw [if_neg (by omega), if_neg (by omega), if_neg (by omega), if_neg (by omega), if_neg (by omega)]
  rw [strOf_size, strNat_strOf ht.p8, List.append_assoc] at hx
  have hcv := conv_row (cap := t.c) (hp.below hb) ht.none
  clear ht hp
  obtain ⟨k, v, n, p, ta, tc⟩ := t
  simp only at hk
  subst hk
  clear hr
  go_enter Try.func9, Try.ntmps9
  go_wp2_with fail
  refine hx.mono ?_
  intro e w1 h1
  have h2 := Laid.pre hb h1
  rw [← HE.out] at h2
  obtain ⟨⟨r, rfl, ho⟩, hb1⟩ := h2
  have HO := hide_it ho
  have HB := hide_it hb1
  clear h1 hx hb ho hb1
  go_wp2_with fail
  go_ret
  exact ⟨⟨r, rfl, HO.out⟩, HB.out⟩
set_option maxRecDepth 100000 in
set_option maxHeartbeats 400000 in
theorem laid6 (a : Option Addr) (cap : Nat) (zs : List Nat) (t : Thing) (w : World) (ht : t.Ok) (h0 : t.k ≠ 0) (h1 : t.k ≠ 1) (h2 : t.k ≠ 2) (h3 : t.k ≠ 3) (h4 : t.k ≠ 4) (h5 : t.k ≠ 5) (hp : RowB w t.a t.p) (hr : RowB w a zs) (hl : zs.length + 1048586 ≤ 140737488355328) (hnil : a = none → zs.length = 0 ∧ cap = 0) :
    Calls Try.prog 9 #[.slice a zs.length cap, thingV t] w fun e w' => Laid w (zs ++ t.enc) e w' := by
  have hb := thing_below w t
  have hx := putBytes_any a t.a cap t.c zs t.p _ (hr.below hb) (hp.below hb) (by have := ht.len; omega) hnil ht.none
  have HE : Hid (t.enc = shortL (2 * t.p.length) ++ t.p) := by unfold Hid Thing.enc; rw [if_neg h0, if_neg h1, if_neg h2, if_neg h3, if_neg h4]
  rw [List.append_assoc] at hx
  clear ht hp
  obtain ⟨k, v, n, p, ta, tc⟩ := t
  have d0 : (k == 0) = false := by simpa using h0
  have d1 : (k == 1) = false := by simpa using h1
  have d2 : (k == 2) = false := by simpa using h2
  have d3 : (k == 3) = false := by simpa using h3
  have d4 : (k == 4) = false := by simpa using h4
  have d5 : (k == 5) = false := by simpa using h5
  clear h0 h1 h2 h3 h4 h5
  clear hr
  go_enter Try.func9, Try.ntmps9
  go_wp2_with fail
  refine hx.mono ?_
  intro e w1 h1
  have h2 := Laid.pre hb h1
  rw [← HE.out] at h2
  obtain ⟨⟨r, rfl, ho⟩, hb1⟩ := h2
  have HO := hide_it ho
  have HB := hide_it hb1
  clear h1 hx hb ho hb1
  go_wp2_with fail
  go_ret
  exact ⟨⟨r, rfl, HO.out⟩, HB.out⟩
theorem laid_any (a : Option Addr) (cap : Nat) (zs : List Nat) (t : Thing) (w : World) (ht : t.Ok) (hp : RowB w t.a t.p) (hr : RowB w a zs) (hl : zs.length + 1048586 ≤ 140737488355328) (hnil : a = none → zs.length = 0 ∧ cap = 0) :
    Calls Try.prog 9 #[.slice a zs.length cap, thingV t] w fun e w' => Laid w (zs ++ t.enc) e w' := by
  by_cases k0 : t.k = 0
  · exact laid0 a cap zs t w ht k0 hp hr hl hnil
  by_cases k1 : t.k = 1
  · exact laid1 a cap zs t w ht k1 hp hr hl hnil
  by_cases k2 : t.k = 2
  · exact laid2 a cap zs t w ht k2 hp hr hl hnil
  by_cases k3 : t.k = 3
  · exact laid3 a cap zs t w ht k3 hp hr hl hnil
  by_cases k4 : t.k = 4
  · exact laid4 a cap zs t w ht k4 hp hr hl hnil
  by_cases k5 : t.k = 5
  · exact laid5 a cap zs t w ht k5 hp hr hl hnil
  exact laid6 a cap zs t w ht k0 k1 k2 k3 k4 k5 hp hr hl hnil
end Go.Proofs.Ytfhinodieghklab
