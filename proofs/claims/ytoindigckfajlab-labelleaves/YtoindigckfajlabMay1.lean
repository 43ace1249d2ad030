/- What May of the program and of the document answer: whether a config may be. -/
import Derived.Test.YtoindigckfajlabWalk5
namespace Go.Proofs.Ytoindigckfajlab
open Go.RowKit

/-- A row of ints, any ones. -/
def RowZ (w : World) (a : Option Addr) (n : Nat) (S : Nat → Int) : Prop :=
  n = 0 ∨ ∃ b o, a = some ⟨b, o, none⟩ ∧ b < w.heap.size ∧ ∀ i, i < n → w.cell? ⟨b, o + i, none⟩ = some (.int .i64 (S i))
/-- A row of accounts: five ints each. -/
def RowA (w : World) (a : Option Addr) (n : Nat) (A : Nat → Nat → Int) : Prop :=
  n = 0 ∨ ∃ b o, a = some ⟨b, o, none⟩ ∧ b < w.heap.size ∧ ∀ i, i < n → ∀ j, j < 5 → w.cell? ⟨b, o + i * 5 + j, none⟩ = some (.int .i64 (A i j))

theorem RowZ.below {w w' : World} {a : Option Addr} {n : Nat} {S : Nat → Int} (h : RowZ w a n S) (hb : Below w.heap.size w w') : RowZ w' a n S := by
  rcases h with h | ⟨b, o, e, hlt, hc⟩
  · exact .inl h
  · exact .inr ⟨b, o, e, Nat.lt_of_lt_of_le hlt hb.size, fun i hi => by rw [hb.cell (p := ⟨b, o + i, none⟩) hlt]; exact hc i hi⟩
theorem RowA.below {w w' : World} {a : Option Addr} {n : Nat} {A : Nat → Nat → Int} (h : RowA w a n A) (hb : Below w.heap.size w w') : RowA w' a n A := by
  rcases h with h | ⟨b, o, e, hlt, hc⟩
  · exact .inl h
  · exact .inr ⟨b, o, e, Nat.lt_of_lt_of_le hlt hb.size, fun i hi j hj => by rw [hb.cell (p := ⟨b, o + i * 5 + j, none⟩) hlt]; exact hc i hi j hj⟩
theorem RowZ.here {w : World} {a : Option Addr} {n : Nat} {S : Nat → Int} (h : RowZ w a n S) {i : Nat} (hi : i < n) :
    ∃ b o, a = some ⟨b, o, none⟩ ∧ b < w.heap.size ∧ ∀ i, i < n → w.cell? ⟨b, o + i, none⟩ = some (.int .i64 (S i)) := by
  rcases h with h | h
  · omega
  · exact h
theorem RowA.here {w : World} {a : Option Addr} {n : Nat} {A : Nat → Nat → Int} (h : RowA w a n A) {i : Nat} (hi : i < n) :
    ∃ b o, a = some ⟨b, o, none⟩ ∧ b < w.heap.size ∧ ∀ i, i < n → ∀ j, j < 5 → w.cell? ⟨b, o + i * 5 + j, none⟩ = some (.int .i64 (A i j)) := by
  rcases h with h | h
  · omega
  · exact h

def win (n m : Int) : Bool := decide (0 ≤ n) && decide (n ≤ m)

set_option maxHeartbeats 400000 in
theorem within_any (n m : Int) (w : World) : Calls Try.prog 40 #[.int .i64 n, .int .i64 m] w fun e w' => e = .returned (.bool (win n m)) ∧ w' = w := by
  by_cases h1 : 0 ≤ n
  · have e1 : win n m = decide (n ≤ m) := by unfold win; rw [decide_eq_true h1]; rfl
    rw [e1]
    go_enter Try.func40, Try.ntmps40
    go_wp2
    go_ret
    exact ⟨rfl, rfl⟩
  · have e1 : win n m = false := by unfold win; rw [decide_eq_false h1]; rfl
    rw [e1]
    go_enter Try.func40, Try.ntmps40
    go_wp2
    go_ret
    exact ⟨rfl, rfl⟩

set_option maxHeartbeats 400000 in
theorem rwithin_any (n m : Int) (w : World) : Calls Try.prog 42 #[.int .i64 n, .int .i64 m] w fun e w' => e = .returned (.bool (win n m)) ∧ w' = w := by
  by_cases h1 : 0 ≤ n
  · have e1 : win n m = decide (n ≤ m) := by unfold win; rw [decide_eq_true h1]; rfl
    rw [e1]
    go_enter Try.func42, Try.ntmps42
    go_wp2
    go_ret
    exact ⟨rfl, rfl⟩
  · have e1 : win n m = false := by unfold win; rw [decide_eq_false h1]; rfl
    rw [e1]
    go_enter Try.func42, Try.ntmps42
    go_wp2
    go_ret
    exact ⟨rfl, rfl⟩

theorem within_is {n m : Int} {v : Bool} {w : World} (h : win n m = v) : Calls Try.prog 40 #[.int .i64 n, .int .i64 m] w fun e w' => e = .returned (.bool v) ∧ w' = w := by
  subst h; exact within_any n m w
theorem rwithin_is {n m : Int} {v : Bool} {w : World} (h : win n m = v) : Calls Try.prog 42 #[.int .i64 n, .int .i64 m] w fun e w' => e = .returned (.bool v) ∧ w' = w := by
  subst h; exact rwithin_any n m w

/-- Whether an account's numbers are within their limits. -/
def accOk (A : Nat → Int) : Bool := win (A 0) 1048576 && (win (A 1) 32 && (win (A 2) 64 && (win (A 3) 1048576 && win (A 4) 4611686018427387904)))

set_option maxHeartbeats 1000000 in
theorem mayBe_any (x0 x1 x2 x3 x4 : Int) (A : Nat → Int) (h0 : A 0 = x0) (h1 : A 1 = x1) (h2 : A 2 = x2) (h3 : A 3 = x3) (h4 : A 4 = x4) (w : World) :
    Calls Try.prog 39 #[.agg #[.int .i64 x0, .int .i64 x1, .int .i64 x2, .int .i64 x3, .int .i64 x4]] w fun e w' => e = .returned (.bool (accOk A)) ∧ Below w.heap.size w w' := by
  unfold accOk
  rw [h0, h1, h2, h3, h4]
  clear h0 h1 h2 h3 h4 A
  cases k0 : win x0 1048576
  · go_enter Try.func39, Try.ntmps39
    go_wp2_with (go_at_call 40; refine (within_is (by assumption)).mono ?_; rintro e w' ⟨rfl, rfl⟩)
    go_ret
    exact ⟨rfl, (Below.refl _ _).alloc (Nat.le_refl _) _⟩
  · cases k1 : win x1 32
    · go_enter Try.func39, Try.ntmps39
      go_wp2_with (go_at_call 40; refine (within_is (by assumption)).mono ?_; rintro e w' ⟨rfl, rfl⟩)
      go_ret
      exact ⟨rfl, (Below.refl _ _).alloc (Nat.le_refl _) _⟩
    · cases k2 : win x2 64
      · go_enter Try.func39, Try.ntmps39
        go_wp2_with (go_at_call 40; refine (within_is (by assumption)).mono ?_; rintro e w' ⟨rfl, rfl⟩)
        go_ret
        exact ⟨rfl, (Below.refl _ _).alloc (Nat.le_refl _) _⟩
      · cases k3 : win x3 1048576
        · go_enter Try.func39, Try.ntmps39
          go_wp2_with (go_at_call 40; refine (within_is (by assumption)).mono ?_; rintro e w' ⟨rfl, rfl⟩)
          go_ret
          exact ⟨rfl, (Below.refl _ _).alloc (Nat.le_refl _) _⟩
        · cases k4 : win x4 4611686018427387904
          · go_enter Try.func39, Try.ntmps39
            go_wp2_with (go_at_call 40; refine (within_is (by assumption)).mono ?_; rintro e w' ⟨rfl, rfl⟩)
            go_ret
            exact ⟨rfl, (Below.refl _ _).alloc (Nat.le_refl _) _⟩
          · go_enter Try.func39, Try.ntmps39
            go_wp2_with (go_at_call 40; refine (within_is (by assumption)).mono ?_; rintro e w' ⟨rfl, rfl⟩)
            go_ret
            exact ⟨rfl, (Below.refl _ _).alloc (Nat.le_refl _) _⟩

/-- Whether a config may be: its labels, how many accounts and which, how many sessions and which. -/
structure MayP (zs : List Nat) (n : Nat) (A : Nat → Nat → Int) (k : Nat) (S : Nat → Int) : Prop where
  chk : checkOf zs = 0
  cnt : n = zs.length
  few : k ≤ 32
  acc : ∀ i, i < n → accOk (A i) = true
  ses : ∀ i, i < k → win (S i) ((zs.length : Int) - 1) = true

def accTo (A : Nat → Nat → Int) (k : Nat) : Prop := ∀ i, i < k → accOk (A i) = true
def sesTo (S : Nat → Int) (m : Int) (k : Nat) : Prop := ∀ i, i < k → win (S i) m = true

theorem not_may {p : Prop} (h : ¬ p) : (false = true ↔ p) := ⟨fun q => (by cases q), fun q => absurd q h⟩
theorem yes_may {p : Prop} (h : p) : (true = true ↔ p) := ⟨fun _ => h, fun _ => rfl⟩

set_option maxRecDepth 100000 in
set_option maxHeartbeats 1000000 in
theorem may_any (a b c : Option Addr) (ca cb cc n k : Nat) (zs : List Nat) (A : Nat → Nat → Int) (S : Nat → Int) (w : World) (hr : Row w a zs) (h64 : All64 zs) (hl : zs.length ≤ maxLen) (hcap : zs.length ≤ ca) (hA : RowA w b n A) (hn : n ≤ maxLen) (hS : RowZ w c k S) (hk : k ≤ maxLen) :
    Calls Try.prog 18 #[.agg #[.slice a zs.length ca, .slice b n cb, .slice c k cc]] w fun e w' => (∃ v : Bool, e = .returned (.bool v) ∧ (v = true ↔ MayP zs n A k S)) ∧ Below w.heap.size w w' := by
  have hb0 : Below w.heap.size w (w.alloc (.cells #[.slice a zs.length ca, .slice b n cb, .slice c k cc] 44)) := (Below.refl _ _).alloc (Nat.le_refl _) _
  have hck := check_any a ca zs (w.alloc (.cells #[.slice a zs.length ca, .slice b n cb, .slice c k cc] 44)) (hr.below hb0) h64 hl hcap
  have hf0 : (w.alloc (.cells #[.slice a zs.length ca, .slice b n cb, .slice c k cc] 44)).cell? ⟨w.heap.size, 0, none⟩ = some (.slice a zs.length ca) := by rw [cell_of_row _ _ _ _ _ _ (heap_alloc_new w _)]; rfl
  have hf1 : (w.alloc (.cells #[.slice a zs.length ca, .slice b n cb, .slice c k cc] 44)).cell? ⟨w.heap.size, 1, none⟩ = some (.slice b n cb) := by rw [cell_of_row _ _ _ _ _ _ (heap_alloc_new w _)]; rfl
  have hf2 : (w.alloc (.cells #[.slice a zs.length ca, .slice b n cb, .slice c k cc] 44)).cell? ⟨w.heap.size, 2, none⟩ = some (.slice c k cc) := by rw [cell_of_row _ _ _ _ _ _ (heap_alloc_new w _)]; rfl
  have hsz0 : (w.alloc (.cells #[.slice a zs.length ca, .slice b n cb, .slice c k cc] 44)).heap.size = w.heap.size + 1 := by simp
  go_enter Try.func18, Try.ntmps18
  go_wp2_with fail
  generalize w.alloc (.cells #[.slice a zs.length ca, .slice b n cb, .slice c k cc] 44) = w0 at *
  refine hck.mono ?_
  rintro e w1 ⟨rfl, hb1⟩
  have hg0 : w1.cell? ⟨w.heap.size, 0, none⟩ = some (.slice a zs.length ca) := by rw [hb1.cell (p := ⟨w.heap.size, 0, none⟩) (by rw [hsz0]; simp)]; exact hf0
  have hg1 : w1.cell? ⟨w.heap.size, 1, none⟩ = some (.slice b n cb) := by rw [hb1.cell (p := ⟨w.heap.size, 1, none⟩) (by rw [hsz0]; simp)]; exact hf1
  have hg2 : w1.cell? ⟨w.heap.size, 2, none⟩ = some (.slice c k cc) := by rw [hb1.cell (p := ⟨w.heap.size, 2, none⟩) (by rw [hsz0]; simp)]; exact hf2
  have hb2 := hb0.trans (hb1.mono hb0.size)
  have hs1 : w.heap.size < w1.heap.size := by have := hb1.size; omega
  clear hf0 hf1 hf2 hck hb0 hb1 hr
  by_cases hc0 : checkOf zs = 0
  · have HC : Hid (checkOf zs = 0) := hc0
    have hd0 : (((checkOf zs : Nat) : Int) != 0) = false := by rw [hc0]; rfl
    clear hc0
    generalize ((checkOf zs : Nat) : Int) = q at *
    by_cases hnn : n = zs.length
    · subst hnn
      by_cases hkk : k ≤ 32
      · have hd1 : ((zs.length : Int) != (zs.length : Int)) = false := by simp
        unfold maxLen at hl
        have hn63 : (zs.length : Int) ≤ 9223372036854775807 := by omega
        go_wp2
        go_loopw [29] (fun i wr => ∃ j : Nat, j ≤ zs.length ∧ i = .int .i64 j ∧ Hid (accTo A j) ∧ Below w1.heap.size w1 wr) (fun i _ => zs.length - (intOf i).toNat)
        case atStart => exact ⟨0, by omega, rfl, fun i hi => by omega, Below.refl _ _⟩
        case round =>
          obtain ⟨j, hj, rfl, hto, hbl⟩ := hrel
          by_cases hlt : j < zs.length
          · obtain ⟨b1, o1, rfl, _, hc1⟩ := ((hA.below hb2).below hbl).here hlt
            have e0 : wr.cell? ⟨b1, o1 + j * 5, none⟩ = some (.int .i64 (A j 0)) := hc1 j hlt 0 (by omega)
            have e1 := hc1 j hlt 1 (by omega)
            have e2 := hc1 j hlt 2 (by omega)
            have e3 := hc1 j hlt 3 (by omega)
            have e4 := hc1 j hlt 4 (by omega)
            clear hc1
            have hmb := mayBe_any (A j 0) (A j 1) (A j 2) (A j 3) (A j 4) (A j) rfl rfl rfl rfl rfl (wr.alloc (.cells #[.int .i64 (A j 0), .int .i64 (A j 1), .int .i64 (A j 2), .int .i64 (A j 3), .int .i64 (A j 4)] 50))
            have hb3 : Below w1.heap.size w1 (wr.alloc (.cells #[.int .i64 (A j 0), .int .i64 (A j 1), .int .i64 (A j 2), .int .i64 (A j 3), .int .i64 (A j 4)] 50)) := hbl.alloc hbl.size _
            cases hv : accOk (A j)
            · rw [hv] at hmb
              go_wp2_with (go_at_call 39; refine hmb.mono ?_; rintro e w4 ⟨rfl, hb4⟩)
              go_ret
              have hb5 := hb3.trans (hb4.mono hb3.size)
              exact ⟨⟨false, rfl, not_may fun h => by have := h.acc j hlt; rw [hv] at this; cases this⟩, hb2.trans (hb5.mono hb2.size)⟩
            · rw [hv] at hmb
              go_wp2_with (go_at_call 39; refine hmb.mono ?_; rintro e w4 ⟨rfl, hb4⟩)
              go_roundw
              case rel =>
                refine ⟨j + 1, by omega, by go_num, fun i hi => ?_, hb3.trans (hb4.mono hb3.size)⟩
                by_cases e : i = j
                · subst e; exact hv
                · exact hto i (by omega)
              case measure => simp [intOf]; omega
          · have hjn : j = zs.length := by omega
            have HTO : Hid (accTo A zs.length) := hjn ▸ hto
            clear hto
            have hh0 : wr.cell? ⟨w.heap.size, 0, none⟩ = some (.slice a zs.length ca) := by rw [hbl.cell (p := ⟨w.heap.size, 0, none⟩) hs1]; exact hg0
            have hh2 : wr.cell? ⟨w.heap.size, 2, none⟩ = some (.slice c k cc) := by rw [hbl.cell (p := ⟨w.heap.size, 2, none⟩) hs1]; exact hg2
            have hb3 := hb2.trans (hbl.mono hb2.size)
            have hs2 : w.heap.size < wr.heap.size := by have := hbl.size; omega
            clear hg0 hg1 hg2 hjn
            have hk63 : (k : Int) ≤ 32 := by omega
            have HR : Hid (RowZ wr c k S) := hS.below hb3
            clear hA hS hb2 hbl
            go_wp2
            go_loopw [40] (fun i wr2 => ∃ j : Nat, j ≤ k ∧ i = .int .i64 j ∧ Hid (sesTo S ((zs.length : Int) - 1) j) ∧ Below wr.heap.size wr wr2) (fun i _ => k - (intOf i).toNat)
            case atStart => exact ⟨0, by omega, rfl, fun i hi => by omega, Below.refl _ _⟩
            case round =>
              obtain ⟨j, hj, rfl, hto, hbl⟩ := hrel
              have hq0 := hbl.cell (p := ⟨w.heap.size, 0, none⟩) hs2
              rw [hh0] at hq0
              by_cases hlt : j < k
              · obtain ⟨b1, o1, rfl, _, hc1⟩ := (HR.out.below hbl).here hlt
                have e0 := hc1 j hlt
                clear hc1
                cases hv : win (S j) ((zs.length : Int) - 1)
                · go_wp2_with (go_at_call 40; refine (within_is (by assumption)).mono ?_; rintro e w' ⟨rfl, rfl⟩)
                  go_ret
                  exact ⟨⟨false, rfl, not_may fun h => by have := h.ses j hlt; rw [hv] at this; cases this⟩, hb3.trans (hbl.mono hb3.size)⟩
                · go_wp2_with (go_at_call 40; refine (within_is (by assumption)).mono ?_; rintro e w' ⟨rfl, rfl⟩)
                  go_roundw
                  case rel =>
                    refine ⟨j + 1, by omega, by go_num, fun i hi => ?_, hbl⟩
                    by_cases e : i = j
                    · subst e; exact hv
                    · exact hto i (by omega)
                  case measure => simp [intOf]; omega
              · have hjk : j = k := by omega
                subst hjk
                go_wp2
                go_ret
                exact ⟨⟨true, rfl, yes_may ⟨HC.out, rfl, hkk, HTO.out, hto⟩⟩, hb3.trans (hbl.mono hb3.size)⟩
      · have hd1 : ((zs.length : Int) != (zs.length : Int)) = false := by simp
        go_wp2
        go_ret
        exact ⟨⟨false, rfl, not_may fun h => hkk h.few⟩, hb2⟩
    · have hd1 : ((n : Int) != (zs.length : Int)) = true := by simp; omega
      go_wp2
      go_ret
      exact ⟨⟨false, rfl, not_may fun h => hnn h.cnt⟩, hb2⟩
  · have hd0 : (((checkOf zs : Nat) : Int) != 0) = true := by simp; omega
    generalize ((checkOf zs : Nat) : Int) = q at *
    go_wp2
    go_ret
    exact ⟨⟨false, rfl, not_may fun h => hc0 h.chk⟩, hb2⟩

end Go.Proofs.Ytoindigckfajlab
