/- New and Load. -/
import Derived.Test.YtdodnegdpdhbiaaDk11
namespace Go.Proofs.Ytdodnegdpdhbiaa
open Go.RowKit

set_option maxRecDepth 100000 in
set_option maxHeartbeats 400000 in
theorem mayBe_any (I : Int) (w : World) : Calls Try.prog 46 #[.int .i64 I] w fun e w' => e = .returned (.bool (decide (1 ≤ I ∧ I ≤ 16))) ∧ w' = w := by
  by_cases h1 : 1 ≤ I
  · by_cases h2 : I ≤ 16
    · rw [show decide (1 ≤ I ∧ I ≤ 16) = true by simp [h1, h2]]
      go_enter Try.func46, Try.ntmps46
      go_wp2
      go_ret
      exact ⟨rfl, rfl⟩
    · rw [show decide (1 ≤ I ∧ I ≤ 16) = false by simp [h2]]
      go_enter Try.func46, Try.ntmps46
      go_wp2
      go_ret
      exact ⟨rfl, rfl⟩
  · rw [show decide (1 ≤ I ∧ I ≤ 16) = false by simp [h1]]
    go_enter Try.func46, Try.ntmps46
    go_wp2
    go_ret
    exact ⟨rfl, rfl⟩

/-- A row of spans that came in: bases and slices of bytes. -/
structure Spn where
  B : Int
  a : Option Addr
  c : Nat
  zs : List Nat
def RowS (w : World) (a : Option Addr) (n : Nat) (S : Nat → Spn) : Prop :=
  n = 0 ∨ ∃ b o, a = some ⟨b, o, none⟩ ∧ b < w.heap.size ∧ ∀ i, i < n → w.cell? ⟨b, o + i * 2, none⟩ = some (.int .i64 (S i).B) ∧ w.cell? ⟨b, o + i * 2 + 1, none⟩ = some (.slice (S i).a (S i).zs.length (S i).c)
structure SpnOk (w : World) (x : Spn) : Prop where
  row : RowB w x.a x.zs
  all : All8 x.zs
  nil : x.a = none → x.zs.length = 0 ∧ x.c = 0
  len : x.zs.length ≤ 211106232532800
theorem RowS.below {w w' : World} {a : Option Addr} {n : Nat} {S : Nat → Spn} (h : RowS w a n S) (hb : Below w.heap.size w w') : RowS w' a n S := by
  rcases h with h | ⟨b, o, e, hlt, hc⟩
  · exact .inl h
  · exact .inr ⟨b, o, e, Nat.lt_of_lt_of_le hlt hb.size, fun i hi => ⟨(hb.cell (p := ⟨b, o + i * 2, none⟩) hlt).trans (hc i hi).1, (hb.cell (p := ⟨b, o + i * 2 + 1, none⟩) hlt).trans (hc i hi).2⟩⟩
theorem SpnOk.below {w w' : World} {x : Spn} (h : SpnOk w x) (hb : Below w.heap.size w w') : SpnOk w' x := ⟨h.row.below hb, h.all, h.nil, h.len⟩
/-- May layer 7's Load take it? -/
def okB (x : Spn) : Bool := decide (0 ≤ x.B ∧ x.B ≤ 4611686018427387904)
/-- The area that is made of a span. -/
def ofS (x : Spn) : Pt := ⟨x.B.toNat, x.zs, x.zs.length, 0, 0, 0, 0⟩

/-- The first j of n parts are laid. -/
structure PtTo (w : World) (base g n : Nat) (s : Nat → Pt) (C : Array Value) (q : Nat → Nat) (v : Nat → Value) (j : Nat) : Prop where
  row : w.heap[g]? = some (.cells C 111 (0, 0))
  low : base ≤ g
  five : ∀ i, i < j → Five C i (q i) (s i)
  zero : ∀ i, j ≤ i → i < n → C[i * 5]? = some (.pointer none) ∧ C[i * 5 + 1]? = some (.int .i64 0) ∧ C[i * 5 + 2]? = some (.int .i64 0) ∧ C[i * 5 + 3]? = some (.int .u8 0) ∧ C[i * 5 + 4]? = some (.int .i64 0)
  ar : ∀ i, i < j → Ar w (q i) 0 (v i) (s i).B (s i).bs (s i).k
  sep : ∀ i, i < j → ¬ Ft (q i) (v i) g
  new : ∀ i, i < j → ∀ b, Ft (q i) (v i) b → base ≤ b
  apart : ∀ i k, i < j → k < j → i ≠ k → ∀ b, Ft (q i) (v i) b → ¬ Ft (q k) (v k) b
section
variable {w w' : World} {base g n : Nat} {s : Nat → Pt} {C : Array Value} {q : Nat → Nat} {v : Nat → Value} {j : Nat}
theorem PtTo.lt (h : PtTo w base g n s C q v j) : g < w.heap.size := (Array.getElem?_eq_some_iff.1 h.row).1
theorem PtTo.below (h : PtTo w base g n s C q v j) (hb : Below w.heap.size w w') : PtTo w' base g n s C q v j :=
  ⟨(hb.block g h.lt).trans h.row, h.low, h.five, h.zero, fun i hi => (h.ar i hi).below hb, h.sep, h.new, h.apart⟩
/-- One more. -/
theorem PtTo.put {qj : Nat} {vj : Value} (h : PtTo w base g n s C q v j) (hj : j < n) (hbase : base ≤ w.heap.size) (hb : Below w.heap.size w w') (ha : Ar w' qj 0 vj (s j).B (s j).bs (s j).k) (hz : (s j).fd = 0 ∧ (s j).fk = 0 ∧ (s j).ft = 0 ∧ (s j).c = 0) (hn : ∀ b, Ft qj vj b → w.heap.size ≤ b) :
    ∃ C' q' v', PtTo (w'.setCell ⟨g, j * 5, none⟩ (.pointer (some ⟨qj, 0, none⟩))) base g n s C' q' v' (j + 1) := by
  have h' := h.below hb
  have hgl := h.lt
  have hng : ∀ b, Ft qj vj b → b ≠ g := fun b hb' e => by have := hn b hb'; omega
  have hk : ∀ b, b ≠ g → (w'.setCell ⟨g, j * 5, none⟩ (.pointer (some ⟨qj, 0, none⟩))).heap[b]? = w'.heap[b]? := fun b hne => Below.heap_setCell _ _ _ _ hne
  refine ⟨_, fun i => if i = j then qj else q i, fun i => if i = j then vj else v i, heap_setCell_same w' g _ _ _ _ h'.row, h.low, fun i hi => ?_, fun i hi hin => ?_, fun i hi => ?_, fun i hi => ?_, fun i hi b hb' => ?_, fun i k hi hk' hik b hb1 hb2 => ?_⟩
  · by_cases e : i = j
    · subst e
      obtain ⟨z0, z1, z2, z3, z4⟩ := h.zero i (Nat.le_refl _) hj
      have hl := (Array.getElem?_eq_some_iff.1 z0).1
      obtain ⟨y1, y2, y3, y4⟩ := hz
      rw [if_pos rfl]
      refine ⟨?_, ?_, ?_, ?_, ?_⟩
      · rw [Array.getElem?_setIfInBounds_self_of_lt hl]
      · rw [Array.getElem?_setIfInBounds_ne (by omega), y1]; exact z1
      · rw [Array.getElem?_setIfInBounds_ne (by omega), y2]; exact z2
      · rw [Array.getElem?_setIfInBounds_ne (by omega), y3]; exact z3
      · rw [Array.getElem?_setIfInBounds_ne (by omega), y4]; exact z4
    · rw [if_neg e]
      exact (h.five i (by omega)).set_ne (i := i) (by omega) rfl
  · obtain ⟨z0, z1, z2, z3, z4⟩ := h.zero i (by omega) hin
    refine ⟨?_, ?_, ?_, ?_, ?_⟩ <;> (rw [Array.getElem?_setIfInBounds_ne (by omega)]; assumption)
  · by_cases e : i = j
    · subst e
      rw [if_pos rfl, if_pos rfl]
      exact ha.keep (hk _ (hng _ (.inl rfl))) (fun b hb' => hk b (hng b (.inr hb')))
    · rw [if_neg e, if_neg e]
      exact (h'.ar i (by omega)).keep (hk _ (fun e => h.sep i (by omega) (by rw [← e]; exact .inl rfl))) (fun b hb' => hk b (fun e => h.sep i (by omega) (by rw [← e]; exact .inr hb')))
  · by_cases e : i = j
    · rw [if_pos e, if_pos e]; exact fun hx => hng g hx rfl
    · rw [if_neg e, if_neg e]; exact h.sep i (by omega)
  · by_cases e : i = j
    · rw [if_pos e, if_pos e] at hb'; have := hn b hb'; omega
    · rw [if_neg e, if_neg e] at hb'; exact h.new i (by omega) b hb'
  · by_cases ei : i = j
    · have ek : k ≠ j := fun e => hik (by omega)
      rw [if_pos ei, if_pos ei] at hb1
      rw [if_neg ek, if_neg ek] at hb2
      have := hn b hb1
      have := (h.ar k (by omega)).inside b hb2
      omega
    · rw [if_neg ei, if_neg ei] at hb1
      by_cases ek : k = j
      · rw [if_pos ek, if_pos ek] at hb2
        have := hn b hb2
        have := (h.ar i (by omega)).inside b hb1
        omega
      · rw [if_neg ek, if_neg ek] at hb2
        exact h.apart i k (by omega) (by omega) hik b hb1 hb2
/-- All are laid: a disk. -/
theorem PtTo.done (h : PtTo w base g n s C q v n) (hn : 1 ≤ n ∧ n ≤ 16) (hle : ∀ i, i < n → (s i).k ≤ (s i).bs.length) (hft : ∀ i, i < n → (s i).ft < 256) (hbase : base ≤ w.heap.size) :
    Dsk (w.alloc (.cells #[.bool false, .slice (some ⟨g, 0, none⟩) n n] 113)) (fun b => base ≤ b ∧ b < w.heap.size + 1) w.heap.size false n s := by
  have hb : Below w.heap.size w (w.alloc (.cells #[.bool false, .slice (some ⟨g, 0, none⟩) n n] 113)) := (Below.refl _ _).alloc (Nat.le_refl _) _
  have h' := h.below hb
  have hgl := h.lt
  refine ⟨g, C, q, v, heap_alloc_new w _, h'.row, hn, h.five, h'.ar, hle, hft, by omega, fun i hi => ⟨fun hx => ?_, h.sep i hi⟩, h.apart, fun b hb' => ?_, fun b hb' => by simpa using hb'.2⟩
  · have := (h.ar i hi).inside _ hx; omega
  · rcases hb' with rfl | rfl | ⟨i, hi, hx⟩
    · omega
    · have := h.low; omega
    · have := h.new i hi b hx; have := (h.ar i hi).inside b hx; omega
end

end Go.Proofs.Ytdodnegdpdhbiaa
