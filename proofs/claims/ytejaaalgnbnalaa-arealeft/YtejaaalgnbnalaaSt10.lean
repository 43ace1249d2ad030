/- Two areas beside one another, by their blocks. -/
import Derived.Test.YtejaaalgnbnalaaSt9
namespace Go.Proofs.Ytejaaalgnbnalaa
open Go.RowKit

/-- Two areas whose blocks are in U and don't meet. -/
structure Ab (W : World) (w : World) (U : Nat → Prop) (p1 B1 : Nat) (bs1 : List Nat) (k1 p2 B2 : Nat) (bs2 : List Nat) (k2 : Nat) : Prop where
  ex : ∃ F1 F2, Fa w F1 p1 B1 bs1 k1 ∧ Fa w F2 p2 B2 bs2 k2 ∧ (∀ j, F1 j → ¬ F2 j) ∧ ∀ j, F1 j ∨ F2 j → U j
  lt : ∀ j, U j → j < w.heap.size
  low : ∀ j, U j → W.heap.size ≤ j
  bel : Below W.heap.size W w
section
variable {W w w' : World} {U : Nat → Prop} {p1 B1 : Nat} {bs1 : List Nat} {k1 p2 B2 : Nat} {bs2 : List Nat} {k2 : Nat}
theorem Ab.swap (h : Ab W w U p1 B1 bs1 k1 p2 B2 bs2 k2) : Ab W w U p2 B2 bs2 k2 p1 B1 bs1 k1 := by
  obtain ⟨⟨F1, F2, h1, h2, h3, h4⟩, h5, h6, h7⟩ := h
  exact ⟨⟨F2, F1, h2, h1, fun j hj h => h3 j h hj, fun j hj => h4 j hj.symm⟩, h5, h6, h7⟩
theorem Ab.below (h : Ab W w U p1 B1 bs1 k1 p2 B2 bs2 k2) (hb : Below w.heap.size w w') : Ab W w' U p1 B1 bs1 k1 p2 B2 bs2 k2 := by
  obtain ⟨⟨F1, F2, h1, h2, h3, h4⟩, h5, h6, h7⟩ := h
  exact ⟨⟨F1, F2, h1.below hb, h2.below hb, h3, h4⟩, fun j hj => Nat.lt_of_lt_of_le (h5 j hj) hb.size, h6, h7.trans (hb.mono h7.size)⟩
theorem Ab.chg {S : Nat → Prop} (h : Ab W w U p1 B1 bs1 k1 p2 B2 bs2 k2) (hc : Chg S w w') (hd : ∀ j, U j → ¬ S j) (hl : ∀ j, S j → W.heap.size ≤ j) : Ab W w' U p1 B1 bs1 k1 p2 B2 bs2 k2 := by
  obtain ⟨⟨F1, F2, h1, h2, h3, h4⟩, h5, h6, h7⟩ := h
  exact ⟨⟨F1, F2, h1.chg hc (fun j hj => hd j (h4 j (.inl hj))), h2.chg hc (fun j hj => hd j (h4 j (.inr hj))), h3, h4⟩, fun j hj => Nat.lt_of_lt_of_le (h5 j hj) hc.size, h6, h7.trans (hc.below hl h7.size)⟩
theorem Ab.fst (h : Ab W w U p1 B1 bs1 k1 p2 B2 bs2 k2) : ∃ F, Fa w F p1 B1 bs1 k1 := by
  obtain ⟨⟨F1, F2, h1, _⟩, _⟩ := h
  exact ⟨F1, h1⟩
/-- What a call of the first one leaves. -/
structure AbDone (W w : World) (U : Nat → Prop) (p1 B1 : Nat) (bs1 : List Nat) (k1 p2 B2 : Nat) (bs2 : List Nat) (k2 : Nat) (w' : World) : Prop where
  ab : Ab W w' (upto U w w') p1 B1 bs1 k1 p2 B2 bs2 k2
  chg : Chg U w w'
theorem Ab.done {F1 F2 : Nat → Prop} {B' : Nat} {bs' : List Nat} {k' : Nat} (h : Ab W w U p1 B1 bs1 k1 p2 B2 bs2 k2) (h2 : Fa w F2 p2 B2 bs2 k2) (h3 : ∀ j, F1 j → ¬ F2 j) (h4 : ∀ j, F1 j ∨ F2 j → U j) (hd : Done w F1 p1 B' bs' k' w') : AbDone W w U p1 B' bs' k' p2 B2 bs2 k2 w' := by
  obtain ⟨hf, hc⟩ := hd
  have hcU : Chg U w w' := hc.mono fun j _ hj => h4 j (.inl hj)
  refine ⟨⟨⟨_, F2, hf, h2.chg hc (fun j hj h => h3 j h hj), upto_far h3 h2.lt, fun j hj => ?_⟩, fun j hj => ?_, fun j hj => ?_, h.bel.trans (hcU.below h.low h.bel.size)⟩, hcU⟩
  · rcases hj with (hj | hj) | hj
    · exact .inl (h4 j (.inl hj))
    · exact .inr hj
    · exact .inl (h4 j (.inr hj))
  · rcases hj with hj | hj
    · exact Nat.lt_of_lt_of_le (h.lt j hj) hcU.size
    · exact hj.2
  · rcases hj with hj | hj
    · exact h.low j hj
    · exact Nat.le_trans h.bel.size hj.1
theorem Ab.append (h : Ab W w U p1 B1 bs1 k1 p2 B2 bs2 k2) (a : Option Addr) (cap : Nat) (zs : List Nat) (hr : RowB w a zs) (h8 : All8 zs) (hnil : a = none → zs.length = 0 ∧ cap = 0) (hl : bs1.length + zs.length ≤ 211106232532800) (hB : B1 + bs1.length + zs.length ≤ 9223372036854775807) :
    Calls Try.prog 8 #[.pointer (some ⟨p1, 0, none⟩), .slice a zs.length cap] w fun e w' => e = .returned (.int .i64 0) ∧ AbDone W w U p1 B1 (bs1 ++ zs) k1 p2 B2 bs2 k2 w' := by
  obtain ⟨F1, F2, h1, h2, h3, h4⟩ := h.ex
  exact (h1.append a cap zs hr h8 hnil hl hB).mono fun e w' q => ⟨q.1, h.done h2 h3 h4 q.2⟩
theorem Ab.crash (h : Ab W w U p1 B1 bs1 k1 p2 B2 bs2 k2) (E : Int) (t : Nat) (ht : t < 256) (c : Nat) (hc : c = min E.toNat (bs1.length - k1)) :
    Calls Try.prog 13 #[.pointer (some ⟨p1, 0, none⟩), .int .i64 E, .int .u8 (t : Int)] w fun e w' => e = .returned (.int .i64 0) ∧ AbDone W w U p1 B1 (crashB bs1 k1 c t) (k1 + c) p2 B2 bs2 k2 w' := by
  obtain ⟨F1, F2, h1, h2, h3, h4⟩ := h.ex
  exact (h1.crash E t ht c hc).mono fun e w' q => ⟨q.1, h.done h2 h3 h4 q.2⟩
theorem Ab.bounds (h : Ab W w U p1 B1 bs1 k1 p2 B2 bs2 k2) :
    Calls Try.prog 10 #[.pointer (some ⟨p1, 0, none⟩)] w fun e w' => e = .returned (.tuple #[.int .i64 (B1 : Int), .int .i64 ((B1 + k1 : Nat) : Int), .int .i64 ((B1 + bs1.length : Nat) : Int)]) ∧ Below w.heap.size w w' := by
  obtain ⟨F, h1⟩ := h.fst
  exact h1.bounds
theorem Ab.image (h : Ab W w U p1 B1 bs1 k1 p2 B2 bs2 k2) : Calls Try.prog 11 #[.pointer (some ⟨p1, 0, none⟩)] w fun e w' => Imaged w B1 (bs1.take k1) e w' := by
  obtain ⟨F, h1⟩ := h.fst
  exact h1.image
theorem Ab.read (h : Ab W w U p1 B1 bs1 k1 p2 B2 bs2 k2) (i m : Nat) (him : i + m ≤ bs1.length) (E : Int) (hE : E = (B1 : Int) + (i : Int)) :
    Calls Try.prog 15 #[.pointer (some ⟨p1, 0, none⟩), .int .i64 E, .int .i64 (m : Int)] w fun e w' => Tells w ((bs1.take (i + m)).drop i) 0 e w' := by
  obtain ⟨F, h1⟩ := h.fst
  exact h1.read i m him E hE
theorem Ab.whole (h : Ab W w U p1 B1 bs1 k1 p2 B2 bs2 k2) : Calls Try.prog 9 #[.pointer (some ⟨p1, 0, none⟩)] w fun e w' => Whole w B1 bs1 e w' := by
  obtain ⟨F, h1⟩ := h.fst
  exact whole_any h1
theorem Ab.room (h : Ab W w U p1 B1 bs1 k1 p2 B2 bs2 k2) : bs1.length ≤ 211106232532800 ∧ B1 + bs1.length ≤ 9223372036854775807 ∧ All8 bs1 ∧ k1 ≤ bs1.length := by
  obtain ⟨F, h1⟩ := h.fst
  exact ⟨h1.room.1, h1.room.2.1, h1.room.2.2, h1.le⟩
/-- Two areas, one made behind the other. -/
theorem Ab.two {w1 w2 : World} (hb : Below W.heap.size W w1) (h1 : Fa w1 (fun j => w.heap.size ≤ j ∧ j < w1.heap.size) p1 B1 bs1 k1) (hw : W.heap.size ≤ w.heap.size) (hb2 : Below w1.heap.size w1 w2) (h2 : Fa w2 (fun j => w1.heap.size ≤ j ∧ j < w2.heap.size) p2 B2 bs2 k2) :
    Ab W w2 (fun j => w.heap.size ≤ j ∧ j < w2.heap.size) p1 B1 bs1 k1 p2 B2 bs2 k2 := by
  have hs := hb2.size
  refine ⟨⟨_, _, h1.below hb2, h2, fun j hj h => by omega, fun j hj => ?_⟩, fun j hj => hj.2, fun j hj => by omega, hb.trans (hb2.mono hb.size)⟩
  rcases hj with hj | hj
  · exact ⟨hj.1, by omega⟩
  · refine ⟨?_, hj.2⟩
    obtain ⟨v, _, _⟩ := h1.ex
    have h9 := h1.lt p1
    obtain ⟨v, hA, hv⟩ := h1.ex
    have := hv p1 (.inl rfl)
    omega
end

/-- A span in a block of its own that lies in no block of U. -/
structure Spn (w : World) (U : Nat → Prop) (g : Nat) (B : Int) (v : Value) : Prop where
  blk : w.heap[g]? = some (.cells #[.int .i64 B, v] 35 (0, 0))
  far : ¬ U g
theorem Spn.lt {w : World} {U : Nat → Prop} {g : Nat} {B : Int} {v : Value} (h : Spn w U g B v) : g < w.heap.size := (Array.getElem?_eq_some_iff.1 h.blk).1
theorem Spn.below {w w' : World} {U : Nat → Prop} {g : Nat} {B : Int} {v : Value} (h : Spn w U g B v) (hb : Below w.heap.size w w') : Spn w' U g B v := ⟨(hb.block g h.lt).trans h.blk, h.far⟩
theorem Spn.chg {w w' : World} {U : Nat → Prop} {g : Nat} {B : Int} {v : Value} (h : Spn w U g B v) (hc : Chg U w w') : Spn w' (upto U w w') g B v :=
  ⟨(hc.block g h.lt h.far).trans h.blk, fun h4 => by
    rcases h4 with h4 | h4
    · exact h.far h4
    · have := h.lt; omega⟩
theorem Spn.cells {w : World} {U : Nat → Prop} {g : Nat} {B : Int} {v : Value} (h : Spn w U g B v) : w.cell? ⟨g, 0, none⟩ = some (.int .i64 B) ∧ w.cell? ⟨g, 1, none⟩ = some v :=
  ⟨cell_of_row _ _ _ _ _ _ h.blk, cell_of_row _ _ _ _ _ _ h.blk⟩

end Go.Proofs.Ytejaaalgnbnalaa
