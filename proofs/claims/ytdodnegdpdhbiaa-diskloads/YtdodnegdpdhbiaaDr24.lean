/- The document's disk: Load. The document's disk: Load, walked. -/
import Derived.Test.YtdodnegdpdhbiaaDr17
import Derived.Test.YtdodnegdpdhbiaaDr16
import Derived.Test.YtdodnegdpdhbiaaDk13
import Derived.Test.YtdodnegdpdhbiaaReg2
namespace Go.Proofs.Ytdodnegdpdhbiaa
open Go.RowKit

section
variable {w : World}
set_option maxRecDepth 100000 in
set_option maxHeartbeats 800000 in
/-- New, told by its block. -/
theorem newR_raw (n : Nat) (hn : 1 ≤ n ∧ n ≤ 16) : Calls Try.prog 18 #[.int .i64 (n : Int)] w fun e w' => e = .returned (.tuple #[valD (some ⟨w.heap.size + 1, 0, none⟩) n n false, .int .i64 0]) ∧
    (∃ C : Array Value, w'.heap[w.heap.size + 1]? = some (.cells C 108 (0, 0)) ∧ C.size = n * 7 ∧ ∀ i j, i < n → j < 7 → C[i * 7 + j]? = #[Value.int .i64 0, .int .i64 0, .int .i64 0, .slice none 0 0, .int .i64 0, .int .i64 0, .int .u8 0][j]?) ∧ Below w.heap.size w w' := by
  have hmk := mk_any 43 108 _ 7 72 Try.underlying43 infoAreaR n (by omega) (by omega) (w.alloc (.cells #[.slice none 0 0, .bool false] 45))
  have h1 : ¬ (n : Int) < 1 := by omega
  have h2 : ¬ 16 < (n : Int) := by omega
  obtain ⟨C, hC⟩ : ∃ C, C = madeCells #[.int .i64 0, .int .i64 0, .int .i64 0, .slice none 0 0, .int .i64 0, .int .i64 0, .int .u8 0] (n * 7) := ⟨_, rfl⟩
  rw [← hC] at hmk
  have hCs : Hid (C.size = n * 7) := by unfold Hid; rw [hC]; simp [madeCells]
  have HC : Hid (∀ i j, i < n → j < 7 → C[i * 7 + j]? = #[Value.int .i64 0, .int .i64 0, .int .i64 0, .slice none 0 0, .int .i64 0, .int .i64 0, .int .u8 0][j]?) := hide_it fun i j hi hj => by rw [hC]; exact made_at _ n 7 i j rfl hi hj
  have hb0 : Below w.heap.size w ((w.alloc (.cells #[.slice (some ⟨w.heap.size + 1, 0, none⟩) n n, .bool false] 45)).alloc (.cells C 108)) := ((Below.refl _ _).alloc (Nat.le_refl _) _).alloc (by simp) _
  have hnew := heap_alloc_new (w.alloc (.cells #[.slice (some ⟨w.heap.size + 1, 0, none⟩) n n, .bool false] 45)) (.cells C 108)
  rw [World.size_alloc] at hnew
  have HN := hide_it hnew
  have HB := hide_it hb0
  clear hC hnew hb0
  go_enter Try.func18, Try.ntmps18
  go_wp2_with fail
  exact bodyPost_ret (v := .tuple #[valD (some ⟨w.heap.size + 1, 0, none⟩) n n false, .int .i64 0]) (by simp [results, Try.results18, go_sem]) rfl ⟨rfl, ⟨C, HN.out, hCs.out, fun i j hi hj => by simpa using HC.out i j hi hj⟩, HB.out⟩
end

/-- The cells of an area that was loaded. -/
structure LdC (w : World) (base g n : Nat) (S : Nat → Spn) (j : Nat) : Prop where
  blk : ∃ C : Array Value, w.heap[g]? = some (.cells C 108 (0, 0)) ∧ C.size = n * 7 ∧
    (∀ i, i < j → ∃ ra rc, C[i * 7]? = some (.int .i64 (S i).B) ∧ C[i * 7 + 1]? = some (.int .i64 ((S i).zs.length : Int)) ∧ C[i * 7 + 2]? = some (.int .i64 0) ∧ C[i * 7 + 3]? = some (.slice ra (S i).zs.length rc) ∧ C[i * 7 + 4]? = some (.int .i64 0) ∧ C[i * 7 + 5]? = some (.int .i64 0) ∧ C[i * 7 + 6]? = some (.int .u8 0) ∧ OwB w base (.slice ra (S i).zs.length rc) (S i).zs) ∧
    (∀ i k, j ≤ i → i < n → k < 7 → ∃ u, C[i * 7 + k]? = some u)
  low : base ≤ g
theorem LdC.below {w w' : World} {base g n : Nat} {S : Nat → Spn} {j : Nat} (h : LdC w base g n S j) (hb : Below w.heap.size w w') : LdC w' base g n S j := by
  obtain ⟨C, h1, h2, h3, h4⟩ := h.blk
  refine ⟨⟨C, (hb.block g (Array.getElem?_eq_some_iff.1 h1).1).trans h1, h2, fun i hi => ?_, h4⟩, h.low⟩
  obtain ⟨ra, rc, c0, c1, c2, c3, c4, c5, c6, ho⟩ := h3 i hi
  exact ⟨ra, rc, c0, c1, c2, c3, c4, c5, c6, OwnS.below ho hb⟩
/-- One more is laid. -/
theorem LdC.put {w : World} {base g n : Nat} {S : Nat → Spn} {j : Nat} (h : LdC w base g n S j) (hj : j < n) {ra : Option Addr} {rc : Nat} (ho : OwB w base (.slice ra (S j).zs.length rc) (S j).zs) :
    LdC (((((((w.setCell ⟨g, j * 7, none⟩ (.int .i64 (S j).B)).setCell ⟨g, j * 7 + 1, none⟩ (.int .i64 ((S j).zs.length : Int))).setCell ⟨g, j * 7 + 2, none⟩ (.int .i64 0)).setCell ⟨g, j * 7 + 3, none⟩ (.slice ra (S j).zs.length rc)).setCell ⟨g, j * 7 + 4, none⟩ (.int .i64 0)).setCell ⟨g, j * 7 + 5, none⟩ (.int .i64 0)).setCell ⟨g, j * 7 + 6, none⟩ (.int .u8 0)) base g n S (j + 1) := by
  obtain ⟨C, h1, h2, h3, h4⟩ := h.blk
  obtain ⟨W, hW⟩ : ∃ W, W = (((((((w.setCell ⟨g, j * 7, none⟩ (.int .i64 (S j).B)).setCell ⟨g, j * 7 + 1, none⟩ (.int .i64 ((S j).zs.length : Int))).setCell ⟨g, j * 7 + 2, none⟩ (.int .i64 0)).setCell ⟨g, j * 7 + 3, none⟩ (.slice ra (S j).zs.length rc)).setCell ⟨g, j * 7 + 4, none⟩ (.int .i64 0)).setCell ⟨g, j * 7 + 5, none⟩ (.int .i64 0)).setCell ⟨g, j * 7 + 6, none⟩ (.int .u8 0)) := ⟨_, rfl⟩
  have hW2 : W = w.setCells g (j * 7) [.int .i64 (S j).B, .int .i64 ((S j).zs.length : Int), .int .i64 0, .slice ra (S j).zs.length rc, .int .i64 0, .int .i64 0, .int .u8 0] := by rw [hW]; rfl
  rw [← hW]
  have hh := heap_setCells g 108 [.int .i64 (S j).B, .int .i64 ((S j).zs.length : Int), .int .i64 0, .slice ra (S j).zs.length rc, .int .i64 0, .int .i64 0, .int .u8 0] (j * 7) w C h1
  rw [← hW2] at hh
  have hkeep : ∀ b, b ≠ g → W.heap[b]? = w.heap[b]? := fun b hb => by
    rw [hW, Below.heap_setCell _ _ _ _ (by simpa using hb), Below.heap_setCell _ _ _ _ (by simpa using hb), Below.heap_setCell _ _ _ _ (by simpa using hb), Below.heap_setCell _ _ _ _ (by simpa using hb), Below.heap_setCell _ _ _ _ (by simpa using hb), Below.heap_setCell _ _ _ _ (by simpa using hb), Below.heap_setCell _ _ _ _ (by simpa using hb)]
  have hown : ∀ (u : Value) (zs : List Nat), OwB w base u zs → OwB W base u zs := fun u zs ho => OwnS.keep ho fun k hk => hkeep k fun e => by
    subst e
    obtain ⟨cur, hc⟩ := OwnS.type ho hk
    rw [h1] at hc
    cases hc
  have hsz : (putL C (j * 7) [.int .i64 (S j).B, .int .i64 ((S j).zs.length : Int), .int .i64 0, .slice ra (S j).zs.length rc, .int .i64 0, .int .i64 0, .int .u8 0]).size = n * 7 := by rw [putL_size]; exact h2
  have hin : ∀ k, k < 7 → (putL C (j * 7) [.int .i64 (S j).B, .int .i64 ((S j).zs.length : Int), .int .i64 0, .slice ra (S j).zs.length rc, .int .i64 0, .int .i64 0, .int .u8 0])[j * 7 + k]? = ([.int .i64 (S j).B, .int .i64 ((S j).zs.length : Int), .int .i64 0, .slice ra (S j).zs.length rc, .int .i64 0, .int .i64 0, .int .u8 0] : List Value)[k]? := fun k hk => putL_in _ C (j * 7) k (by simpa using hk) (by simp; omega)
  have hout : ∀ i k, i ≠ j → k < 7 → (putL C (j * 7) [.int .i64 (S j).B, .int .i64 ((S j).zs.length : Int), .int .i64 0, .slice ra (S j).zs.length rc, .int .i64 0, .int .i64 0, .int .u8 0])[i * 7 + k]? = C[i * 7 + k]? := fun i k hi hk => putL_out _ C (j * 7) (i * 7 + k) (by simp; omega)
  refine ⟨⟨_, hh, hsz, fun i hi => ?_, fun i k hi hin' hk => ?_⟩, h.low⟩
  · by_cases hij : i = j
    · subst hij
      exact ⟨ra, rc, hin 0 (by omega), hin 1 (by omega), hin 2 (by omega), hin 3 (by omega), hin 4 (by omega), hin 5 (by omega), hin 6 (by omega), hown _ _ ho⟩
    · obtain ⟨ra', rc', c0, c1, c2, c3, c4, c5, c6, ho'⟩ := h3 i (by omega)
      exact ⟨ra', rc', (hout i 0 hij (by omega)).trans c0, (hout i 1 hij (by omega)).trans c1, (hout i 2 hij (by omega)).trans c2, (hout i 3 hij (by omega)).trans c3, (hout i 4 hij (by omega)).trans c4, (hout i 5 hij (by omega)).trans c5, (hout i 6 hij (by omega)).trans c6, hown _ _ ho'⟩
  · obtain ⟨u, hu⟩ := h4 i k (by omega) hin' hk
    exact ⟨u, (hout i k (by omega) hk).trans hu⟩
theorem LdC.keep {w : World} {base g n : Nat} {S : Nat → Spn} {j : Nat} (_h : LdC w base g n S j) {ra : Option Addr} {rc : Nat} {b : Nat} (hb : b ≠ g) : (((((((w.setCell ⟨g, j * 7, none⟩ (.int .i64 (S j).B)).setCell ⟨g, j * 7 + 1, none⟩ (.int .i64 ((S j).zs.length : Int))).setCell ⟨g, j * 7 + 2, none⟩ (.int .i64 0)).setCell ⟨g, j * 7 + 3, none⟩ (.slice ra (S j).zs.length rc)).setCell ⟨g, j * 7 + 4, none⟩ (.int .i64 0)).setCell ⟨g, j * 7 + 5, none⟩ (.int .i64 0)).setCell ⟨g, j * 7 + 6, none⟩ (.int .u8 0)).heap[b]? = w.heap[b]? := by
  rw [Below.heap_setCell _ _ _ _ (by simpa using hb), Below.heap_setCell _ _ _ _ (by simpa using hb), Below.heap_setCell _ _ _ _ (by simpa using hb), Below.heap_setCell _ _ _ _ (by simpa using hb), Below.heap_setCell _ _ _ _ (by simpa using hb), Below.heap_setCell _ _ _ _ (by simpa using hb), Below.heap_setCell _ _ _ _ (by simpa using hb)]
/-- All are laid: a disk. -/
theorem LdC.dd {w : World} {base g n : Nat} {S : Nat → Spn} {F : Nat → Prop} (h : LdC w base g n S n) (hF : ∀ b, F b → b < base) (hn : 1 ≤ n ∧ n ≤ 16) (hb : ∀ i, i < n → okB (S i) = true) (h8 : ∀ i, i < n → All8 (S i).zs) (hl : ∀ i, i < n → (S i).zs.length ≤ 211106232532800) : Dd w F (some ⟨g, 0, none⟩) n (fun i => ofS (S i)) := by
  obtain ⟨C, h1, h2, h3, _⟩ := h.blk
  have hlow := h.low
  refine ⟨⟨g, 0, rfl, (Array.getElem?_eq_some_iff.1 h1).1, fun hx => by have := hF g hx; omega, fun i hi => ?_⟩, hn, fun i hi => ?_⟩
  · obtain ⟨ra, rc, c0, c1, c2, c3, c4, c5, c6, ho⟩ := h3 i hi
    have hB : (S i).B = (((S i).B.toNat : Nat) : Int) := by have := of_decide_eq_true (hb i hi); omega
    obtain ⟨ra', rc', hv, hrow, hrc, _, hnn⟩ := ho.row
    injection hv with e1 _ e3
    subst e1
    subst e3
    have hk : ∀ k u, C[i * 7 + k]? = some u → w.cell? ⟨g, 0 + i * 7 + k, none⟩ = some u := fun k u hu => by rw [cell_of_row _ _ _ _ _ _ h1, Nat.zero_add]; exact hu
    refine ⟨ra, rc, ⟨?_, hk 1 _ c1, hk 2 _ c2, hk 3 _ c3, hk 4 _ c4, hk 5 _ c5, hk 6 _ c6⟩, hrow, .inr fun ad e hx => ?_, hrc, hnn⟩
    · have := hk 0 _ c0
      rw [hB] at this
      exact this
    · subst e
      have := (OwnS.inside ho ad.block rfl).1
      have := hF _ hx
      omega
  · have := of_decide_eq_true (hb i hi)
    have := hl i hi
    exact ⟨Nat.le_refl _, h8 i hi, hl i hi, by unfold ofS; simp only; omega, by unfold ofS; simp, by unfold ofS; simp⟩
end Go.Proofs.Ytdodnegdpdhbiaa

namespace Go.Proofs.Ytdodnegdpdhbiaa
open Go.RowKit

/-- What the document's Load answers. -/
def LodR (w : World) (F : Nat → Prop) (n : Nat) (S : Nat → Spn) (e : Ending) (w' : World) : Prop :=
  ((1 ≤ n ∧ n ≤ 16) ∧ (∀ i, i < n → okB (S i) = true) ∧ ∃ v, e = .returned (.tuple #[v, .int .i64 0]) ∧ NewD w F n false (fun i => ofS (S i)) v w') ∨
  (¬ ((1 ≤ n ∧ n ≤ 16) ∧ ∀ i, i < n → okB (S i) = true) ∧ e = .returned (.tuple #[valD none 0 0 false, .int .i64 2]) ∧ Below w.heap.size w w')
theorem bxD_zero (W : World) (b : Nat) (h : W.heap[b]? = some (.cells #[.slice none 0 0, .bool false] 45 (0, 0))) : W.cell? ⟨b, 0, none⟩ = some (.slice none 0 0) ∧ W.cell? ⟨b, 1, none⟩ = some (.bool false) ∧ ∀ i, W.frozen? ⟨b, i, none⟩ = false :=
  ⟨cell_of_row _ _ _ _ _ _ h, cell_of_row _ _ _ _ _ _ h, fun _i => frozen_of_row _ _ _ _ _ h⟩

/-- What Load's loop knows. -/
structure LdS (w wr : World) (g T n : Nat) (S : Nat → Spn) (j : Nat) : Prop where
  res : wr.heap[w.heap.size]? = some (.cells #[.slice none 0 0, .bool false] 45 (0, 0))
  box : wr.heap[T]? = some (.cells #[.slice (some ⟨g, 0, none⟩) n n, .bool false] 45 (0, 0))
  lay : LdC wr w.heap.size g n S j
  bel : Below w.heap.size w wr
theorem LdS.below {w wr wr' : World} {g T n : Nat} {S : Nat → Spn} {j : Nat} (h : LdS w wr g T n S j) (hb : Below wr.heap.size wr wr') : LdS w wr' g T n S j :=
  ⟨(hb.block _ (Array.getElem?_eq_some_iff.1 h.res).1).trans h.res, (hb.block _ (Array.getElem?_eq_some_iff.1 h.box).1).trans h.box, h.lay.below hb, h.bel.trans (hb.mono h.bel.size)⟩

theorem LdC.other {w w' : World} {base g n : Nat} {S : Nat → Spn} {j R : Nat} {c : Array Value} (h : LdC w base g n S j) (hR : w.heap[R]? = some (.cells c 45 (0, 0))) (hk : ∀ b, b ≠ R → w'.heap[b]? = w.heap[b]?) : LdC w' base g n S j := by
  obtain ⟨C, h1, h2, h3, h4⟩ := h.blk
  refine ⟨⟨C, (hk g (fun e => by rw [e, hR] at h1; cases h1)).trans h1, h2, fun i hi => ?_, h4⟩, h.low⟩
  obtain ⟨ra, rc, c0, c1, c2, c3, c4, c5, c6, ho⟩ := h3 i hi
  refine ⟨ra, rc, c0, c1, c2, c3, c4, c5, c6, OwnS.keep ho fun k e => hk k fun e2 => ?_⟩
  subst e2
  obtain ⟨cur, hc⟩ := OwnS.type ho e
  rw [hR] at hc
  cases hc
/-- One more is laid, its world by a name. -/
theorem LdS.put {w wr : World} {g T n : Nat} {S : Nat → Spn} {j : Nat} (h : LdS w wr g T n S j) (hj : j < n) (hgn : g ≠ w.heap.size) (hTn : T ≠ g) {x : Spn} (hx : x = S j) {ra : Option Addr} {rc : Nat} (ho : OwB wr w.heap.size (.slice ra x.zs.length rc) x.zs) :
    ∃ z, z = (((((((wr.setCell ⟨g, j * 7, none⟩ (.int .i64 x.B)).setCell ⟨g, j * 7 + 1, none⟩ (.int .i64 (x.zs.length : Int))).setCell ⟨g, j * 7 + 2, none⟩ (.int .i64 0)).setCell ⟨g, j * 7 + 3, none⟩ (.slice ra x.zs.length rc)).setCell ⟨g, j * 7 + 4, none⟩ (.int .i64 0)).setCell ⟨g, j * 7 + 5, none⟩ (.int .i64 0)).setCell ⟨g, j * 7 + 6, none⟩ (.int .u8 0)) ∧ LdS w z g T n S (j + 1) ∧ ∀ b, b ≠ g → z.heap[b]? = wr.heap[b]? := by
  subst hx
  have hk : ∀ b, b ≠ g → ((((((((wr.setCell ⟨g, j * 7, none⟩ (.int .i64 (S j).B)).setCell ⟨g, j * 7 + 1, none⟩ (.int .i64 ((S j).zs.length : Int))).setCell ⟨g, j * 7 + 2, none⟩ (.int .i64 0)).setCell ⟨g, j * 7 + 3, none⟩ (.slice ra (S j).zs.length rc)).setCell ⟨g, j * 7 + 4, none⟩ (.int .i64 0)).setCell ⟨g, j * 7 + 5, none⟩ (.int .i64 0)).setCell ⟨g, j * 7 + 6, none⟩ (.int .u8 0))).heap[b]? = wr.heap[b]? := fun b hb => h.lay.keep hb
  have hlow := h.lay.low
  exact ⟨_, rfl, ⟨(hk _ hgn.symm).trans h.res, (hk _ hTn).trans h.box, h.lay.put hj ho, ((((((h.bel.setCell hlow _).setCell hlow _).setCell hlow _).setCell hlow _).setCell hlow _).setCell hlow _).setCell hlow _⟩, hk⟩
/-- The cells that are written. -/
theorem LdS.cells {w wr : World} {g T n : Nat} {S : Nat → Spn} {j : Nat} (h : LdS w wr g T n S j) (hj : j < n) : (∃ u, wr.cell? ⟨g, j * 7, none⟩ = some u) ∧ (∃ u, wr.cell? ⟨g, j * 7 + 1, none⟩ = some u) ∧ (∃ u, wr.cell? ⟨g, j * 7 + 2, none⟩ = some u) ∧ (∃ u, wr.cell? ⟨g, j * 7 + 3, none⟩ = some u) ∧ (∃ u, wr.cell? ⟨g, j * 7 + 4, none⟩ = some u) ∧ (∃ u, wr.cell? ⟨g, j * 7 + 5, none⟩ = some u) ∧ (∃ u, wr.cell? ⟨g, j * 7 + 6, none⟩ = some u) ∧ (∀ i, wr.frozen? ⟨g, i, none⟩ = false) ∧ g < wr.heap.size := by
  obtain ⟨C, h1, h2, _, h4⟩ := h.lay.blk
  have hk : ∀ k, k < 7 → ∃ u, wr.cell? ⟨g, j * 7 + k, none⟩ = some u := fun k hk => by
    obtain ⟨u, hu⟩ := h4 j k (Nat.le_refl _) hj hk
    exact ⟨u, by rw [cell_of_row _ _ _ _ _ _ h1]; exact hu⟩
  exact ⟨hk 0 (by omega), hk 1 (by omega), hk 2 (by omega), hk 3 (by omega), hk 4 (by omega), hk 5 (by omega), hk 6 (by omega), fun i => frozen_of_row _ _ _ _ _ h1, (Array.getElem?_eq_some_iff.1 h1).1⟩

set_option maxRecDepth 100000 in
set_option maxHeartbeats 3200000 in
theorem loadR (a : Option Addr) (n c : Nat) (S : Nat → Spn) (w : World) (F : Nat → Prop) (hS : RowS w a n S) (hok : ∀ i, i < n → SpnOk w (S i)) (hF : ∀ b, F b → b < w.heap.size) :
    Calls Try.prog 22 #[.slice a n c] w fun e w' => LodR w F n S e w' := by
  obtain ⟨W0, hW0⟩ : ∃ W, W = w.alloc (.cells #[.slice none 0 0, .bool false] 45) := ⟨_, rfl⟩
  have hb0 : Below w.heap.size w W0 := by rw [hW0]; exact (Below.refl _ _).alloc (Nat.le_refl _) _
  have hr0 : W0.heap[w.heap.size]? = some (.cells #[.slice none 0 0, .bool false] 45 (0, 0)) := by rw [hW0]; exact heap_alloc_new w _
  have hs0 : w.heap.size < W0.heap.size := (Array.getElem?_eq_some_iff.1 hr0).1
  have hno : Hid (∀ w', ¬ ((1 ≤ n ∧ n ≤ 16) ∧ ∀ i, i < n → okB (S i) = true) → Below w.heap.size w w' → LodR w F n S (.returned (.tuple #[valD none 0 0 false, .int .i64 2])) w') := fun w' h1 h2 => .inr ⟨h1, rfl, h2⟩
  by_cases hn : 1 ≤ n ∧ n ≤ 16
  · have hnew := newR_raw (w := W0) n hn
    have hyes : Hid (∀ (g c' : Nat) (w' : World), LdC w' w.heap.size g n S n → (∀ i, i < n → okB (S i) = true) → Below w.heap.size w w' → LodR w F n S (.returned (.tuple #[valD (some ⟨g, 0, none⟩) n c' false, .int .i64 0])) w') := fun g c' w' h1 h2 h3 => .inl ⟨hn, h2, _, rfl, ⟨_, _, rfl, h1.dd hF hn h2 (fun i hi => (hok i hi).all) (fun i hi => (hok i hi).len)⟩, h3⟩
    generalize LodR w F n S = Q at *
    have HS := hide_it hS
    have HOK := hide_it hok
    clear hS hok hF
    go_enter Try.func22, Try.ntmps22
    go_wp2_with fail
    rw [← hW0]
    clear hW0
    refine hnew.mono ?_
    rintro e W1 ⟨rfl, ⟨C, hC1, hC2, hC3⟩, hb1⟩
    obtain ⟨g, hg⟩ : ∃ g, g = W0.heap.size + 1 := ⟨_, rfl⟩
    rw [← hg] at hC1 ⊢
    obtain ⟨W2, hW2⟩ : ∃ W, W = W1.alloc (.cells #[.slice (some ⟨g, 0, none⟩) n n, .bool false] 45) := ⟨_, rfl⟩
    have hb2 : Below W1.heap.size W1 W2 := by rw [hW2]; exact (Below.refl _ _).alloc (Nat.le_refl _) _
    have hL : LdS w W2 g W1.heap.size n S 0 := by
      refine ⟨?_, by rw [hW2]; exact heap_alloc_new W1 _, ?_, ?_⟩
      · have hlt : w.heap.size < W1.heap.size := by have := hb1.size; omega
        exact (hb2.block _ hlt).trans ((hb1.block _ hs0).trans hr0)
      · refine LdC.below ⟨⟨C, hC1, hC2, fun i hi => by omega, fun i k hi hin hk => ?_⟩, by omega⟩ hb2
        exact ⟨_, Array.getElem?_eq_getElem (by omega)⟩
      · have h1 := hb0.trans (hb1.mono hb0.size)
        exact h1.trans (hb2.mono h1.size)
    obtain ⟨T, hT⟩ : ∃ T, T = W1.heap.size := ⟨_, rfl⟩
    rw [← hT] at hL
    have HL := hide_it hL
    clear hnew hC1 hC2 hC3 hb1 hb2 hL hb0 hr0
    have hgn : g ≠ w.heap.size := by omega
    clear hg
    replace hT := hide_it hT
    go_wp2_with fail
    rw [← hW2, ← hT.out]
    have hTn : Hid (T ≠ w.heap.size ∧ T ≠ g) := by
      refine ⟨fun e => ?_, fun e => ?_⟩
      · have h1 := HL.out.box
        have h2 := HL.out.res
        rw [e, h2] at h1
        cases h1
      · have h1 := HL.out.box
        obtain ⟨C, h2, _⟩ := HL.out.lay.blk
        rw [e, h2] at h1
        cases h1
    clear hW2 hT
    go_loopw [20] (fun i wr => ∃ j : Nat, j ≤ n ∧ i = .int .i64 (j : Int) ∧ Hid (LdS w wr g T n S j) ∧ Hid (∀ i, i < j → okB (S i) = true)) (fun i _ => n - (intOf i).toNat)
    case atStart => exact ⟨0, by omega, rfl, HL, fun i hi => by omega⟩
    case round =>
      obtain ⟨j, hj, rfl, hL, hbs⟩ := hrel
      clear HL
      by_cases hlt : j < n
      · have hd : decide ((j : Int) < (n : Int)) = true := by simp; omega
        obtain ⟨x, hx⟩ : ∃ x, x = S j := ⟨_, rfl⟩
        have hp := HOK.out j hlt
        obtain ⟨b, o, rfl, hbl, e0, e1⟩ : ∃ b o, a = some ⟨b, o, none⟩ ∧ b < wr.heap.size ∧ wr.cell? ⟨b, o + j * 2, none⟩ = some (.int .i64 (S j).B) ∧ wr.cell? ⟨b, o + j * 2 + 1, none⟩ = some (.slice (S j).a (S j).zs.length (S j).c) := by
          rcases HS.out.below hL.out.bel with h | ⟨b, o, e, h1, h2⟩
          · omega
          · exact ⟨b, o, e, h1, (h2 j hlt).1, (h2 j hlt).2⟩
        rw [← hx] at hp e0 e1
        have hrow := hide_it (hp.row.below hL.out.bel)
        have hpn := hp.nil
        have hpl := hp.len
        obtain ⟨W3, hW3⟩ : ∃ W, W = wr.alloc (.cells #[.int .i64 x.B, .slice x.a x.zs.length x.c] 33) := ⟨_, rfl⟩
        have hb3 : Below wr.heap.size wr W3 := by rw [hW3]; exact (Below.refl _ _).alloc (Nat.le_refl _) _
        have hbx3 : W3.heap[wr.heap.size]? = some (.cells #[.int .i64 x.B, .slice x.a x.zs.length x.c] 33 (0, 0)) := by rw [hW3]; exact heap_alloc_new wr _
        have hs3 : wr.heap.size < W3.heap.size := (Array.getElem?_eq_some_iff.1 hbx3).1
        have f0 : W3.cell? ⟨wr.heap.size, 0, none⟩ = some (.int .i64 x.B) := cell_of_row _ _ _ _ _ _ hbx3
        have f1 : W3.cell? ⟨wr.heap.size, 1, none⟩ = some (.slice x.a x.zs.length x.c) := cell_of_row _ _ _ _ _ _ hbx3
        have hL3 := hide_it (hL.out.below hb3)
        have hrow3 := hide_it (hrow.out.below hb3)
        replace hx := hide_it hx
        have hTl : T < wr.heap.size := (Array.getElem?_eq_some_iff.1 hL.out.box).1
        clear hp hb3 hrow hL hbx3
        by_cases hB : okB x = true
        · have hB2 := of_decide_eq_true hB
          have hd1 : decide (x.B < 0) = false := by simp; omega
          have hd2 : decide ((4611686018427387904 : Int) < x.B) = false := by simp; omega
          have hbs2 : Hid (∀ i, i < j + 1 → okB (S i) = true) := fun i hi => by
            by_cases hij : i = j
            · rw [hij, ← hx.out]; exact hB
            · exact hbs.out i (by omega)
          obtain ⟨t0, _⟩ : W3.cell? ⟨T, 0, none⟩ = some (.slice (some ⟨g, 0, none⟩) n n) ∧ True := ⟨cell_of_row _ _ _ _ _ _ hL3.out.box, trivial⟩
          clear hB hB2 hbs
          have hgl : g < wr.heap.size := by
            have h1 := (hL3.out.cells hlt).2.2.2.2.2.2.2.2
            have h2 : W3.heap.size = wr.heap.size + 1 := by rw [hW3]; simp
            by_cases e : g = wr.heap.size
            · exfalso
              obtain ⟨C, h3, _⟩ := hL3.out.lay.blk
              rw [e, hW3] at h3
              have h4 := heap_alloc_new wr (.cells #[.int .i64 x.B, .slice x.a x.zs.length x.c] 33)
              rw [h4] at h3
              cases h3
            · omega
          go_wp2_with fail
          rw [← hW3]
          clear hW3 e0 e1
          refine wp_region_held_drew (S := (fun w' => w'.heap[T]? = W3.heap[T]? ∧ w'.heap[wr.heap.size]? = W3.heap[wr.heap.size]?)) (by kernel_rfl) ?_ (fun hHeld => ?_)
          · exact ⟨rfl, rfl⟩
          refine take_on (i := 0) (v := ?_) rfl rfl (by kernel_rfl) (by kernel_rfl) (by kernel_rfl) (fun _ _ _ h => h) rfl ?_ hHeld ?_
          rotate_left
          · (intro wq hSq; have p0 := (World.cell?_of_block (w := W3) (a := ⟨T, 0, none⟩) hSq.1).trans t0; have q0 := (World.cell?_of_block (w := W3) (a := ⟨wr.heap.size, 0, none⟩) hSq.2).trans f0; have q1 := (World.cell?_of_block (w := W3) (a := ⟨wr.heap.size, 1, none⟩) hSq.2).trans f1; go_simp <;> first | with_reducible rfl | rfl)
          simp only [Act.put, List.setIfInBounds_toArray, List.set_cons_zero, List.set_cons_succ]
          refine take_on (i := 1) (v := ?_) rfl rfl (by kernel_rfl) (by kernel_rfl) (by kernel_rfl) (fun _ _ _ h => h) rfl ?_ hHeld ?_
          rotate_left
          · (intro wq hSq; have p0 := (World.cell?_of_block (w := W3) (a := ⟨T, 0, none⟩) hSq.1).trans t0; have q0 := (World.cell?_of_block (w := W3) (a := ⟨wr.heap.size, 0, none⟩) hSq.2).trans f0; have q1 := (World.cell?_of_block (w := W3) (a := ⟨wr.heap.size, 1, none⟩) hSq.2).trans f1; go_simp <;> first | with_reducible rfl | rfl)
          simp only [Act.put, List.setIfInBounds_toArray, List.set_cons_zero, List.set_cons_succ]
          refine take_on (i := 2) (v := ?_) rfl rfl (by kernel_rfl) (by kernel_rfl) (by kernel_rfl) (fun _ _ _ h => h) rfl ?_ hHeld ?_
          rotate_left
          · (intro wq hSq; have p0 := (World.cell?_of_block (w := W3) (a := ⟨T, 0, none⟩) hSq.1).trans t0; have q0 := (World.cell?_of_block (w := W3) (a := ⟨wr.heap.size, 0, none⟩) hSq.2).trans f0; have q1 := (World.cell?_of_block (w := W3) (a := ⟨wr.heap.size, 1, none⟩) hSq.2).trans f1; go_simp <;> first | with_reducible rfl | rfl)
          simp only [Act.put, List.setIfInBounds_toArray, List.set_cons_zero, List.set_cons_succ]
          refine take_on (i := 3) (v := ?_) rfl rfl (by kernel_rfl) (by kernel_rfl) (by kernel_rfl) (fun _ _ _ h => h) rfl ?_ hHeld ?_
          rotate_left
          · (intro wq hSq; have p0 := (World.cell?_of_block (w := W3) (a := ⟨T, 0, none⟩) hSq.1).trans t0; have q0 := (World.cell?_of_block (w := W3) (a := ⟨wr.heap.size, 0, none⟩) hSq.2).trans f0; have q1 := (World.cell?_of_block (w := W3) (a := ⟨wr.heap.size, 1, none⟩) hSq.2).trans f1; go_simp <;> first | with_reducible rfl | rfl)
          simp only [Act.put, List.setIfInBounds_toArray, List.set_cons_zero, List.set_cons_succ]
          refine take_on (i := 4) (v := ?_) rfl rfl (by kernel_rfl) (by kernel_rfl) (by kernel_rfl) (fun _ _ _ h => h) rfl ?_ hHeld ?_
          rotate_left
          · (intro wq hSq; have p0 := (World.cell?_of_block (w := W3) (a := ⟨T, 0, none⟩) hSq.1).trans t0; have q0 := (World.cell?_of_block (w := W3) (a := ⟨wr.heap.size, 0, none⟩) hSq.2).trans f0; have q1 := (World.cell?_of_block (w := W3) (a := ⟨wr.heap.size, 1, none⟩) hSq.2).trans f1; go_simp <;> first | with_reducible rfl | rfl)
          simp only [Act.put, List.setIfInBounds_toArray, List.set_cons_zero, List.set_cons_succ]
          refine take_on (i := 5) (v := ?_) rfl rfl (by kernel_rfl) (by kernel_rfl) (by kernel_rfl) (fun _ _ _ h => h) rfl ?_ hHeld ?_
          rotate_left
          · (intro wq hSq; have p0 := (World.cell?_of_block (w := W3) (a := ⟨T, 0, none⟩) hSq.1).trans t0; have q0 := (World.cell?_of_block (w := W3) (a := ⟨wr.heap.size, 0, none⟩) hSq.2).trans f0; have q1 := (World.cell?_of_block (w := W3) (a := ⟨wr.heap.size, 1, none⟩) hSq.2).trans f1; go_simp <;> first | with_reducible rfl | rfl)
          simp only [Act.put, List.setIfInBounds_toArray, List.set_cons_zero, List.set_cons_succ]
          refine take_on (i := 6) (v := ?_) rfl rfl (by kernel_rfl) (by kernel_rfl) (by kernel_rfl) (fun _ _ _ h => h) rfl ?_ hHeld ?_
          rotate_left
          · (intro wq hSq; have p0 := (World.cell?_of_block (w := W3) (a := ⟨T, 0, none⟩) hSq.1).trans t0; have q0 := (World.cell?_of_block (w := W3) (a := ⟨wr.heap.size, 0, none⟩) hSq.2).trans f0; have q1 := (World.cell?_of_block (w := W3) (a := ⟨wr.heap.size, 1, none⟩) hSq.2).trans f1; go_simp <;> first | with_reducible rfl | rfl)
          simp only [Act.put, List.setIfInBounds_toArray, List.set_cons_zero, List.set_cons_succ]
          refine take_on (i := 7) (v := ?_) rfl rfl (by kernel_rfl) (by kernel_rfl) (by kernel_rfl) (fun _ _ _ h => h) rfl ?_ hHeld ?_
          rotate_left
          · (intro wq hSq; have p0 := (World.cell?_of_block (w := W3) (a := ⟨T, 0, none⟩) hSq.1).trans t0; have q0 := (World.cell?_of_block (w := W3) (a := ⟨wr.heap.size, 0, none⟩) hSq.2).trans f0; have q1 := (World.cell?_of_block (w := W3) (a := ⟨wr.heap.size, 1, none⟩) hSq.2).trans f1; go_simp <;> first | with_reducible rfl | rfl)
          simp only [Act.put, List.setIfInBounds_toArray, List.set_cons_zero, List.set_cons_succ]
          refine take_on (i := 9) (v := ?_) rfl rfl (by kernel_rfl) (by kernel_rfl) (by kernel_rfl) (fun _ _ _ h => h) rfl ?_ hHeld ?_
          rotate_left
          · (intro wq hSq; have p0 := (World.cell?_of_block (w := W3) (a := ⟨T, 0, none⟩) hSq.1).trans t0; have q0 := (World.cell?_of_block (w := W3) (a := ⟨wr.heap.size, 0, none⟩) hSq.2).trans f0; have q1 := (World.cell?_of_block (w := W3) (a := ⟨wr.heap.size, 1, none⟩) hSq.2).trans f1; go_simp <;> first | with_reducible rfl | rfl)
          simp only [Act.put, List.setIfInBounds_toArray, List.set_cons_zero, List.set_cons_succ]
          refine take_on (i := 10) (v := ?_) rfl rfl (by kernel_rfl) (by kernel_rfl) (by kernel_rfl) (fun _ _ _ h => h) rfl ?_ hHeld ?_
          rotate_left
          · (intro wq hSq; have p0 := (World.cell?_of_block (w := W3) (a := ⟨T, 0, none⟩) hSq.1).trans t0; have q0 := (World.cell?_of_block (w := W3) (a := ⟨wr.heap.size, 0, none⟩) hSq.2).trans f0; have q1 := (World.cell?_of_block (w := W3) (a := ⟨wr.heap.size, 1, none⟩) hSq.2).trans f1; go_simp <;> first | with_reducible rfl | rfl)
          simp only [Act.put, List.setIfInBounds_toArray, List.set_cons_zero, List.set_cons_succ]
          refine take_one (i := 8) rfl (by kernel_rfl) (fun K hK => ?_)
          obtain ⟨z1, e1⟩ : ∃ z, z = W3.drew.alloc (.cells #[] 5) := ⟨_, rfl⟩
          go_simp
          first | rw [← e1] | rw [show (W3.alloc (.cells #[] 5)).drew = z1 from e1.symm]
          have hz1 : Below W3.heap.size W3 z1 := by rw [e1]; exact (Below.refl _ _).drew.alloc (Nat.le_refl _) _
          have ho1 : OwB z1 W3.heap.size (.slice (some ⟨W3.heap.size, 0, none⟩) 0 0) [] := by rw [e1]; exact owb_empty W3.drew
          clear e1
          refine hK.out _ _ ?_ (fun hHeld => ?_)
          · exact ⟨hz1.block _ (by omega), hz1.block _ hs3⟩
          clear hK K
          try simp only [Act.put, List.setIfInBounds_toArray, List.set_cons_zero, List.set_cons_succ]
          refine take_one (i := 11) rfl (by kernel_rfl) (fun K hK => ?_)
          obtain ⟨vb, z2, hrun, hob, hgb, hab⟩ := run_appendB z1 23 W3.heap.size _ [] ho1 x.a x.c x.zs (hrow3.out.below hz1) hpn (by simp; omega) hz1.size
          rw [List.nil_append] at hob
          obtain ⟨pa, pc, hvb, _⟩ := hob.row
          subst hvb
          refine step_append_run rfl _ _ _ rfl _ _ _ _ rfl rfl hrun ?_
          have hz2 : Below W3.heap.size W3 z2 := hz1.grown hgb hz1.size (fun j e => by cases e; exact Nat.le_refl _)
          have hL4 := hide_it (hL3.out.below hz2)
          clear hrun hab hgb
          refine hK.out _ _ ?_ (fun hHeld => ?_)
          · exact ⟨hz2.block _ (by omega), hz2.block _ hs3⟩
          clear hK K
          try simp only [Act.put, List.setIfInBounds_toArray, List.set_cons_zero, List.set_cons_succ]
          refine take_on (i := 12) (v := ?_) rfl rfl (by kernel_rfl) (by kernel_rfl) (by kernel_rfl) (fun _ _ _ h => h) rfl ?_ hHeld ?_
          rotate_left
          · (intro wq hSq; have p0 := (World.cell?_of_block (w := W3) (a := ⟨T, 0, none⟩) hSq.1).trans t0; have q0 := (World.cell?_of_block (w := W3) (a := ⟨wr.heap.size, 0, none⟩) hSq.2).trans f0; have q1 := (World.cell?_of_block (w := W3) (a := ⟨wr.heap.size, 1, none⟩) hSq.2).trans f1; go_simp <;> first | with_reducible rfl | rfl)
          simp only [Act.put, List.setIfInBounds_toArray, List.set_cons_zero, List.set_cons_succ]
          refine take_on (i := 13) (v := ?_) rfl rfl (by kernel_rfl) (by kernel_rfl) (by kernel_rfl) (fun _ _ _ h => h) rfl ?_ hHeld ?_
          rotate_left
          · (intro wq hSq; have p0 := (World.cell?_of_block (w := W3) (a := ⟨T, 0, none⟩) hSq.1).trans t0; have q0 := (World.cell?_of_block (w := W3) (a := ⟨wr.heap.size, 0, none⟩) hSq.2).trans f0; have q1 := (World.cell?_of_block (w := W3) (a := ⟨wr.heap.size, 1, none⟩) hSq.2).trans f1; go_simp <;> first | with_reducible rfl | rfl)
          simp only [Act.put, List.setIfInBounds_toArray, List.set_cons_zero, List.set_cons_succ]
          refine take_one (i := 14) rfl (by kernel_rfl) (fun K hK => ?_)
          obtain ⟨⟨u0, k0⟩, ⟨u1, k1⟩, ⟨u2, k2⟩, ⟨u3, k3⟩, ⟨u4, k4⟩, ⟨u5, k5⟩, ⟨u6, k6⟩, kz, _⟩ := hL4.out.cells hlt
          obtain ⟨zD, eD, hL5, hkp⟩ := hL4.out.put hlt hgn hTn.out.2 hx.out (OwnS.mono hob (by have := hL3.out.bel.size; omega))
          replace eD := hide_it eD
          replace hL5 := hide_it hL5
          have hkT := (hkp T hTn.out.2).trans (hz2.block _ (by omega))
          have hkS := (hkp wr.heap.size (by omega)).trans (hz2.block _ hs3)
          clear hkp
          go_simp
          rw [← eD.out]
          refine hK.out _ _ ?_ (fun hHeld => ?_)
          · exact ⟨hkT, hkS⟩
          clear hK K
          try simp only [Act.put, List.setIfInBounds_toArray, List.set_cons_zero, List.set_cons_succ]
          refine wpAnyH_done (by kernel_rfl) ?_ _
          clear hL4 hL3 k0 k1 k2 k3 k4 k5 k6 kz eD hkT hkS t0 f0 f1 hob hz1 hz2 ho1
          go_wp2_with fail
          exact ⟨⟨j + 1, by omega, by go_num, hL5.out, hbs2⟩, by simp [intOf]; omega⟩
        · have hend : Q (.returned (.tuple #[valD none 0 0 false, .int .i64 2])) ((W3.setCell ⟨w.heap.size, 0, none⟩ (.slice none 0 0)).setCell ⟨w.heap.size, 1, none⟩ (.bool false)) := hno.out _ (fun h => hB (by rw [hx.out]; exact h.2 j hlt)) ((hL3.out.bel.setCell (Nat.le_refl _) _).setCell (Nat.le_refl _) _)
          obtain ⟨r0, r1, rz⟩ := bxD_zero W3 _ hL3.out.res
          have hlw : w.heap.size < W3.heap.size := (Array.getElem?_eq_some_iff.1 hL3.out.res).1
          have hB2 : x.B < 0 ∨ 4611686018427387904 < x.B := by
            have : ¬ (0 ≤ x.B ∧ x.B ≤ 4611686018427387904) := fun h => hB (decide_eq_true h)
            omega
          clear hno hyes hB hL3 hrow3 hbs
          rw [hW3] at r0 r1 rz hend f0 f1
          by_cases hneg : x.B < 0
          · have hd1 : decide (x.B < 0) = true := by simp; omega
            clear hB2 hneg
            go_wp2_with fail
            refine bodyPost_ret (v := .tuple #[valD none 0 0 false, .int .i64 2]) ?_ rfl hend
            simp [results, Try.results22, go_sem, r0, r1]
          · have hd1 : decide (x.B < 0) = false := by simp; omega
            have hd2 : decide ((4611686018427387904 : Int) < x.B) = true := by simp; omega
            clear hB2 hneg
            go_wp2_with fail
            refine bodyPost_ret (v := .tuple #[valD none 0 0 false, .int .i64 2]) ?_ rfl hend
            simp [results, Try.results22, go_sem, r0, r1]
      · have hd : decide ((j : Int) < (n : Int)) = false := by simp; omega
        have hjn : j = n := by omega
        subst hjn
        obtain ⟨r0, r1, rz⟩ := bxD_zero wr _ hL.out.res
        have t0 : wr.cell? ⟨T, 0, none⟩ = some (.slice (some ⟨g, 0, none⟩) j j) := cell_of_row _ _ _ _ _ _ hL.out.box
        have t1 : wr.cell? ⟨T, 1, none⟩ = some (.bool false) := cell_of_row _ _ _ _ _ _ hL.out.box
        have hend : Q (.returned (.tuple #[valD (some ⟨g, 0, none⟩) j j false, .int .i64 0])) ((wr.setCell ⟨w.heap.size, 0, none⟩ (.slice (some ⟨g, 0, none⟩) j j)).setCell ⟨w.heap.size, 1, none⟩ (.bool false)) := hyes.out g j _ (hL.out.lay.other hL.out.res (fun b hb => by rw [Below.heap_setCell _ _ _ _ (by simpa using hb), Below.heap_setCell _ _ _ _ (by simpa using hb)])) hbs.out ((hL.out.bel.setCell (Nat.le_refl _) _).setCell (Nat.le_refl _) _)
        clear hno hyes hbs hL HOK HS
        go_wp2_with fail
        refine bodyPost_ret (v := .tuple #[valD (some ⟨g, 0, none⟩) j j false, .int .i64 0]) ?_ rfl hend
        simp [results, Try.results22, go_sem, r0, r1]
  · have hI : ¬ (1 ≤ (n : Int) ∧ (n : Int) ≤ 16) := by omega
    have hnew := newR_no (w := W0) (n : Int) hI
    have hbad := hide_it (fun w' h => hno.out w' (fun h => hn h.1) h)
    generalize LodR w F n S = Q at *
    clear hS hok hF hno
    go_enter Try.func22, Try.ntmps22
    go_wp2_with fail
    rw [← hW0]
    clear hW0
    refine hnew.mono ?_
    rintro e W1 ⟨rfl, hb1⟩
    have hr1 := (hb1.block _ hs0).trans hr0
    obtain ⟨r0, r1, rz⟩ := bxD_zero W1 _ hr1
    have hlw : w.heap.size < W1.heap.size := (Array.getElem?_eq_some_iff.1 hr1).1
    have hbw1 := hb0.trans (hb1.mono hb0.size)
    clear hnew hb0 hb1 hr0 hr1
    have hbm : Below w.heap.size w ((W1.setCell ⟨w.heap.size, 0, none⟩ (.slice none 0 0)).setCell ⟨w.heap.size, 1, none⟩ (.bool false)) := (hbw1.setCell (Nat.le_refl _) _).setCell (Nat.le_refl _) _
    have hend := hbad.out _ (hbm.alloc hbm.size (.cells #[.slice none 0 0, .bool false] 45))
    clear hbad hbm hbw1
    go_wp2_with fail
    refine bodyPost_ret (v := .tuple #[valD none 0 0 false, .int .i64 2]) ?_ rfl hend
    simp [results, Try.results22, go_sem, r0, r1, hlw]
end Go.Proofs.Ytdodnegdpdhbiaa
