/- Numbers copied, compared; vectors, one nowhere above the other. -/
import Derived.Test.YthlkegemkkepgaaCk2
namespace Go.Proofs.Ythlkegemkkepgaa
open Go.RowKit

set_option maxRecDepth 100000 in
set_option maxHeartbeats 400000 in
theorem copied_any (a : Option Addr) (cap : Nat) (zs : List Int) (w : World) (hr : RowI w a zs) (hl : 8 * zs.length ≤ 211106232532800) (hnil : a = none → zs.length = 0 ∧ cap = 0) :
    Calls Try.prog 20 #[.slice a zs.length cap] w fun e w' => (∃ r, e = .returned r ∧ OwI w' w.heap.size r zs) ∧ Below w.heap.size w w' := by
  have hb0 : Below w.heap.size w (w.alloc (.cells #[] 3)) := (Below.refl _ _).alloc (Nat.le_refl _) _
  have hr0 := hr.below hb0
  clear hr
  go_enter Try.func20, Try.ntmps20
  go_wp2_with (at_builtin; refine wpList_appendI _ rfl _ _ rfl w.heap.size _ [] rfl (OwI.empty w) a cap zs rfl hr0 hnil (by simp; omega) hb0.size ?_; intro v1 w1 hown1 hg1 hat1)
  have hb1 : Below w.heap.size w w1 := hb0.grown hg1 hb0.size (fun j e => by cases e; exact Nat.le_refl _)
  go_ret
  exact ⟨⟨_, rfl, hown1⟩, hb1⟩

set_option maxRecDepth 100000 in
set_option maxHeartbeats 1000000 in
theorem same_any (a c : Option Addr) (k1 k2 : Nat) (xs ys : List Int) (w : World) (h1 : RowI w a xs) (h2 : RowI w c ys) (hl : xs.length ≤ 4611686018427387904) :
    Calls Try.prog 24 #[.slice a xs.length k1, .slice c ys.length k2] w fun e w' => e = .returned (.bool (decide (xs = ys))) ∧ Below w.heap.size w w' := by
  by_cases hlen : xs.length = ys.length
  · rw [← hlen]
    obtain ⟨N, hN⟩ : ∃ N, N = xs.length := ⟨_, rfl⟩
    rw [← hN]
    have HN := hide_it hN
    have HL := hide_it hlen
    have hNl : N ≤ 4611686018427387904 := by omega
    clear hN hlen hl
    go_enter Try.func24, Try.ntmps24
    go_wp2
    go_loopw [13] (fun i wr => ∃ k : Nat, k ≤ N ∧ i = .int .i64 k ∧ Hid (∀ i, i < k → atI xs i = atI ys i) ∧ Below w.heap.size w wr) (fun i _ => N - (intOf i).toNat)
    case atStart => exact ⟨0, Nat.zero_le _, rfl, fun i hi => by omega, Below.refl _ _⟩
    case round =>
      obtain ⟨k, hk, rfl, HE, hbl⟩ := hrel
      by_cases hlt : k < N
      · have hki : (k : Int) < (N : Int) := by omega
        have hx : k < xs.length := by have := HN.out; omega
        have hy : k < ys.length := by have := HN.out; have := HL.out; omega
        obtain ⟨b1, o1, rfl, l1, d1⟩ := h1.here hx
        obtain ⟨b2, o2, rfl, l2, d2⟩ := h2.here hy
        have e1 := (hbl.cell (p := ⟨b1, o1 + k, none⟩) l1).trans (d1 k hx)
        have e2 := (hbl.cell (p := ⟨b2, o2 + k, none⟩) l2).trans (d2 k hy)
        have hw1 : IntKind.i64.wrap ((k : Int) + 1) = (k : Int) + 1 := i64_in (by omega) (by omega)
        obtain ⟨X, hX⟩ : ∃ X, X = atI xs k := ⟨_, rfl⟩
        obtain ⟨Y, hY⟩ : ∃ Y, Y = atI ys k := ⟨_, rfl⟩
        rw [← hX] at e1
        rw [← hY] at e2
        have HX := hide_it hX
        have HY := hide_it hY
        clear hX hY d1 d2 h1 h2
        by_cases hxy : X = Y
        · subst hxy
          have hd : (X == X) = true := by simp
          go_wp2
          go_quiet (fail)
          go_wp2
          go_roundw
          case rel =>
            refine ⟨k + 1, by omega, by go_num, fun i hi => ?_, below_drewN hbl _⟩
            by_cases e : i = k
            · subst e; rw [← HX.out, ← HY.out]
            · exact HE.out i (by omega)
          case measure => simp [intOf]; omega
        · have hd : (X == Y) = false := by simpa using hxy
          go_wp2
          go_quiet (fail)
          go_wp2
          go_ret
          refine ⟨?_, below_drewN hbl _⟩
          have hne : decide (xs = ys) = false := decide_eq_false (fun e => hxy (by rw [HX.out, HY.out]; simp [e]))
          rw [hne]; rfl
      · go_wp2
        go_ret
        refine ⟨?_, hbl⟩
        have he : decide (xs = ys) = true := decide_eq_true (eq_of_atI HL.out fun i hi => HE.out i (by have := HN.out; omega))
        rw [he]; rfl
  · have hne : ¬ (xs.length : Int) = (ys.length : Int) := by omega
    have he : decide (xs = ys) = false := decide_eq_false (fun e => hlen (by rw [e]))
    rw [he]
    clear h1 h2 he
    go_enter Try.func24, Try.ntmps24
    go_wp2
    go_ret
    exact ⟨rfl, Below.refl _ _⟩

/-- A vector is nowhere above another. -/
def under (xs ys : List Int) : Prop := xs.length = ys.length ∧ ∀ i, i < xs.length → atI xs i ≤ atI ys i
open Classical in
/-- .. told. -/
noncomputable def underB (xs ys : List Int) : Bool := decide (under xs ys)
theorem underB_yes {xs ys : List Int} (h : under xs ys) : underB xs ys = true := by unfold underB; simp [h]
theorem underB_no {xs ys : List Int} (h : ¬ under xs ys) : underB xs ys = false := by unfold underB; simp [h]

set_option maxRecDepth 100000 in
set_option maxHeartbeats 1000000 in
theorem below_any (a c : Option Addr) (k1 k2 : Nat) (xs ys : List Int) (w : World) (h1 : RowI w a xs) (h2 : RowI w c ys) (hl : xs.length ≤ 4611686018427387904) :
    Calls Try.prog 22 #[.slice a xs.length k1, .slice c ys.length k2] w fun e w' => e = .returned (.bool (underB xs ys)) ∧ Below w.heap.size w w' := by
  by_cases hlen : xs.length = ys.length
  · rw [← hlen]
    obtain ⟨N, hN⟩ : ∃ N, N = xs.length := ⟨_, rfl⟩
    rw [← hN]
    have HN := hide_it hN
    have HL := hide_it hlen
    have hNl : N ≤ 4611686018427387904 := by omega
    clear hN hlen hl
    go_enter Try.func22, Try.ntmps22
    go_wp2
    go_loopw [14] (fun i wr => ∃ k : Nat, k ≤ N ∧ i = .int .i64 k ∧ Hid (∀ i, i < k → atI xs i ≤ atI ys i) ∧ Below w.heap.size w wr) (fun i _ => N - (intOf i).toNat)
    case atStart => exact ⟨0, Nat.zero_le _, rfl, fun i hi => by omega, Below.refl _ _⟩
    case round =>
      obtain ⟨k, hk, rfl, HE, hbl⟩ := hrel
      by_cases hlt : k < N
      · have hki : (k : Int) < (N : Int) := by omega
        have hx : k < xs.length := by have := HN.out; omega
        have hy : k < ys.length := by have := HN.out; have := HL.out; omega
        obtain ⟨b1, o1, rfl, l1, d1⟩ := h1.here hx
        obtain ⟨b2, o2, rfl, l2, d2⟩ := h2.here hy
        have e1 := (hbl.cell (p := ⟨b1, o1 + k, none⟩) l1).trans (d1 k hx)
        have e2 := (hbl.cell (p := ⟨b2, o2 + k, none⟩) l2).trans (d2 k hy)
        have hw1 : IntKind.i64.wrap ((k : Int) + 1) = (k : Int) + 1 := i64_in (by omega) (by omega)
        obtain ⟨X, hX⟩ : ∃ X, X = atI xs k := ⟨_, rfl⟩
        obtain ⟨Y, hY⟩ : ∃ Y, Y = atI ys k := ⟨_, rfl⟩
        rw [← hX] at e1
        rw [← hY] at e2
        have HX := hide_it hX
        have HY := hide_it hY
        clear hX hY d1 d2 h1 h2
        by_cases hxy : X ≤ Y
        · go_wp2
          go_roundw
          case rel =>
            refine ⟨k + 1, by omega, by go_num, fun i hi => ?_, hbl⟩
            by_cases e : i = k
            · subst e; rw [← HX.out, ← HY.out]; exact hxy
            · exact HE.out i (by omega)
          case measure => simp [intOf]; omega
        · have hd : Y < X := by omega
          go_wp2
          go_ret
          refine ⟨?_, hbl⟩
          rw [underB_no (fun h => by have := h.2 k hx; rw [← HX.out, ← HY.out] at this; omega)]; rfl
      · go_wp2
        go_ret
        refine ⟨?_, hbl⟩
        rw [underB_yes ⟨HL.out, fun i hi => HE.out i (by have := HN.out; omega)⟩]; rfl
  · have hne : ¬ (xs.length : Int) = (ys.length : Int) := by omega
    rw [underB_no (fun h => hlen h.1)]
    clear h1 h2
    go_enter Try.func22, Try.ntmps22
    go_wp2
    go_ret
    exact ⟨rfl, Below.refl _ _⟩



































































end Go.Proofs.Ythlkegemkkepgaa
