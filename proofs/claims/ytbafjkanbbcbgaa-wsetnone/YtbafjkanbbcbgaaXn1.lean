/- A set that is not there; a version beside its like; a list of pairs that was given. -/
import Derived.Test.YtbafjkanbbcbgaaXo6
import Derived.Test.YtbafjkanbbcbgaaOpenSq
namespace Go.Proofs.Ytbafjkanbbcbgaa
open Go.RowKit Go.Maps Go.Shelf

attribute [local go_sem] Oper.semAt_some

set_option maxRecDepth 100000 in
theorem len_none (w : World) : Calls Try.prog 20 #[.pointer none] w fun e w' => e = .returned (.int .i64 0) ∧ w' = w := by
  have ha := all_none w
  go_enter Try.func20, Try.ntmps20
  go_wp2_with (refine ha.mono ?_; rintro e w1 ⟨rfl, hw⟩; obtain rfl := hw.symm; clear hw)
  go_ret
  exact ⟨rfl, rfl⟩
set_option maxRecDepth 100000 in
theorem weight_none (key : ByteArray) (hk : key.size ≤ maxLen) (w : World) : Calls Try.prog 18 #[.pointer none, .string key] w fun e w' => e = .returned (.int .i64 0) ∧ Below w.heap.size w w' := by
  have ha := all_none w
  have hkey := WideMaps.keyOf_string_mk (P := Try.prog) Try.underlying9 hk
  have hl : (Instr.lookup 30 (.map none) (.string key) false).run Try.prog w = .ok (verV zeroVn) w := Maps.look_nil false law_string Try.underlying30 (zeroVer w) hkey
  have hw := weigh_any zeroVn w (by decide) (by decide)
  rw [show wgt zeroVn = 0 from rfl] at hw
  generalize zeroVn = x at *
  clear hk hkey
  unfold verV at *
  go_enter Try.func18, Try.ntmps18
  go_wp2_with fail
  refine ha.mono ?_
  rintro e w1 ⟨rfl, hw1⟩
  obtain rfl := hw1.symm
  clear hw1 ha
  go_wp2_with fail
  refine hw.mono ?_
  rintro e w2 ⟨rfl, hb⟩
  go_wp2
  go_ret
  exact ⟨rfl, hb⟩

set_option maxRecDepth 100000 in
set_option maxHeartbeats 1000000 in
theorem sameVersion_same (x y : Vn) (w : World) (hx : RowB w x.a x.z) (hxn : x.a = none → x.z.length = 0 ∧ x.c = 0) (hy : RowB w y.a y.z) (hyn : y.a = none → y.z.length = 0 ∧ y.c = 0) (hs : (ky x, verOf x) = (ky y, verOf y)) :
    Calls Try.prog 17 #[verV x, verV y] w fun e w' => e = .returned (.bool true) ∧ Below w.heap.size w w' := by
  obtain ⟨k, n, a, z, c, d⟩ := x
  obtain ⟨k2, n2, a2, z2, c2, d2⟩ := y
  simp only [ky, verOf, Prod.mk.injEq, Ver.mk.injEq] at hs
  obtain ⟨h1, rfl, rfl, rfl⟩ := hs
  obtain rfl := same_ba h1
  simp only [verV] at hx hy hxn hyn ⊢
  obtain ⟨W, hW⟩ : ∃ W, W = (w.alloc (.cells #[.string k, .int .i64 n, .slice a z.length c, .bool d] 41)).alloc (.cells #[.string k, .int .i64 n, .slice a2 z.length c2, .bool d] 41) := ⟨_, rfl⟩
  have hb : Below w.heap.size w W := by rw [hW]; exact ((Below.refl _ _).alloc (Nat.le_refl _) _).alloc (by simp) _
  have k1 := conv_row (cap := c) (hx.below hb) hxn
  have k3 := conv_row (cap := c2) (hy.below hb) hyn
  have e1 : (k.toList == k.toList) = true := by simp
  have e2 : ((strOf z).toList == (strOf z).toList) = true := by simp
  have e3 : (n == n) = true := by simp
  have e4 : (d == d) = true := by simp
  clear hx hy hxn hyn h1
  rw [hW] at k1 k3 hb
  generalize strOf z = S at *
  generalize z.length = L at *
  have HB := hide_it hb
  clear hb hW
  go_enter Try.func17, Try.ntmps17
  go_wp2
  go_ret
  exact ⟨rfl, HB.out⟩

/-! ### a list that was given -/
def pnOf (p : Pq) : Pn := ⟨p.k, p.v.a, p.v.p, p.v.c⟩
def pnsOf (n : Nat) (A : Nat → Pq) : List Pn := (List.range n).map fun i => pnOf (A i)
theorem pnsOf_len (n : Nat) (A : Nat → Pq) : (pnsOf n A).length = n := by simp [pnsOf]
theorem pnsOf_at {n : Nat} {A : Nat → Pq} {i : Nat} (h : i < n) : pn (pnsOf n A) i = pnOf (A i) := by
  unfold pn pnsOf
  rw [List.getD_eq_getElem?_getD, List.getElem?_map, List.getElem?_range h]; rfl
theorem pnsOf_mem {n : Nat} {A : Nat → Pq} {x : Pn} (h : x ∈ pnsOf n A) : ∃ i, i < n ∧ x = pnOf (A i) := by
  obtain ⟨i, h1, h2⟩ := List.mem_map.1 h
  exact ⟨i, List.mem_range.1 h1, h2.symm⟩
theorem CamePq.rows {w : World} {a : Option Addr} {n : Nat} {A : Nat → Pq} (h : CamePq w a n A) : RowU w a (pnsOf n A) := by
  rcases h.row with h0 | ⟨b, o, e, hb, hc⟩
  · exact .inl (by rw [pnsOf_len]; exact h0)
  · refine .inr ⟨b, o, e, hb, fun i hi => ?_⟩
    rw [pnsOf_len] at hi
    rw [pnsOf_at hi]
    exact hc i hi
theorem CamePq.rd {w : World} {a : Option Addr} {n : Nat} {A : Nat → Pq} (h : CamePq w a n A) : ∀ x ∈ pnsOf n A, RowB w x.a x.z ∧ (x.a = none → x.z.length = 0 ∧ x.c = 0) := fun x hx => by
  obtain ⟨i, h1, rfl⟩ := pnsOf_mem hx
  exact ⟨(h.each i h1).v.row, (h.each i h1).v.none⟩
theorem CamePq.kl {w : World} {a : Option Addr} {n : Nat} {A : Nat → Pq} (h : CamePq w a n A) : ∀ x ∈ pnsOf n A, x.k.size ≤ 140737488351232 := fun x hx => by
  obtain ⟨i, h1, rfl⟩ := pnsOf_mem hx
  exact (h.each i h1).k
theorem ovT_nil : ∀ (us : List Pw) (n : Nat), (ovT (isW []) n [] us).map (·.1) = us
  | [], n => rfl
  | u :: us, n => by
    rw [ovT, List.takeWhile_nil, List.dropWhile_nil, List.map_nil, List.nil_append, if_neg (by unfold isW getW; simp), List.map_append, ovT_nil us (n + 1)]; rfl
theorem ovA_nil (fr to : List UInt8) (us : List Pw) : (ovA [] fr to us).map (·.1) = us := ovT_nil us 0

set_option maxRecDepth 100000 in
set_option maxHeartbeats 2000000 in
/-- Do the keys rise? -/
theorem rises_any {w : World} {a : Option Addr} (cp : Nat) {us : List Pn} (h : RowU w a us) (hl : us.length ≤ 4611686018427387904) :
    Calls Try.prog 22 #[.slice a us.length cp] w fun e w' => (∃ b : Bool, e = .returned (.bool b)) ∧ Below w.heap.size w w' := by
  obtain ⟨N, hN⟩ : ∃ N, N = us.length := ⟨_, rfl⟩
  rw [← hN] at hl ⊢
  have H : Hid (∀ z, Below w.heap.size w z → RowU z a us) := hide_it fun z hz => h.below hz
  have HN := hide_it hN
  clear h hN
  go_enter Try.func22, Try.ntmps22
  go_wp2_with fail
  go_loopw [3] (fun i wr => ∃ k : Nat, 1 ≤ k ∧ k ≤ N + 1 ∧ i = .int .i64 k ∧ Hid (Below w.heap.size w wr)) (fun i _ => N + 1 - (intOf i).toNat)
  case atStart => exact ⟨1, by omega, by omega, rfl, hide_it (Below.refl _ _)⟩
  case round =>
    obtain ⟨k, hk1, hk, rfl, HW⟩ := hrel
    by_cases hlt : k < N
    · have hi1 : (k : Int) < (N : Int) := by omega
      have hs1 : IntKind.i64.wrap ((k : Int) - 1) = ((k - 1 : Nat) : Int) := by rw [i64_in (by omega) (by omega)]; omega
      rcases H.out wr HW.out with h0 | ⟨g, o, rfl, hg, hc⟩
      · have := HN.out; omega
      · have p0 := (hc k (by rw [← HN.out]; exact hlt)).1
        have p1 := (hc (k - 1) (by rw [← HN.out]; omega)).1
        have hk2 : ((k - 1 : Nat) : Int) < (N : Int) := by omega
        have hk3 : k - 1 < N := by omega
        clear hc
        generalize (pn us k).k = K1 at *
        generalize (pn us (k - 1)).k = K2 at *
        generalize k - 1 = m at *
        cases hle : Op.bytesLess K2.toList K1.toList with
        | true =>
          go_wp2
          go_quiet (fail)
          go_wp2
          go_roundw
          case rel => exact ⟨k + 1, by omega, by omega, by go_num, hide_it (HW.out.trans ((below_drewN (Below.refl _ _) nq).mono HW.out.size))⟩
          case measure => simp [intOf]; omega
        | false =>
          go_wp2
          go_quiet (fail)
          go_wp2
          go_ret
          exact ⟨⟨_, rfl⟩, HW.out.trans ((below_drewN (Below.refl _ _) nq).mono HW.out.size)⟩
    · have hn1 : ¬ (k : Int) < (N : Int) := by omega
      go_wp2
      go_ret
      exact ⟨.inr rfl, HW.out⟩

end Go.Proofs.Ytbafjkanbbcbgaa
