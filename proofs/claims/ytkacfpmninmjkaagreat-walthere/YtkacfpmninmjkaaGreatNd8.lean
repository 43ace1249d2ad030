/- A disk that was made since. -/
import Derived.Test.YtkacfpmninmjkaaGreatDk8
namespace Go.Proofs.YtkacfpmninmjkaaGreat
open Go.RowKit

/-- A disk of one's own, made since w0. -/
structure Nd (w0 w : World) (p : Nat) (am : Bool) (n : Nat) (s : Nat → Pt) : Prop where
  ex : ∃ F, Dsk w F p am n s ∧ ∀ b, F b → w0.heap.size ≤ b
  bel : Below w0.heap.size w0 w
section
variable {w0 w w' : World} {p : Nat} {am am' : Bool} {n : Nat} {s s' : Nat → Pt}
theorem Nd.below (h : Nd w0 w p am n s) (hb : Below w.heap.size w w') : Nd w0 w' p am n s := by
  obtain ⟨F, h1, h2⟩ := h.ex
  exact ⟨⟨F, h1.below hb, h2⟩, h.bel.trans (hb.mono h.bel.size)⟩
theorem Nd.went {F : Nat → Prop} (h : Nd w0 w p am n s) (hF : ∀ b, F b → w0.heap.size ≤ b) (hw : Went w F p am' n s' w') : Nd w0 w' p am' n s' := by
  have hs := h.bel.size
  refine ⟨⟨upto F w w', hw.dsk, fun b hb => ?_⟩, h.bel.trans (hw.chg.below (fun b hb => hF b hb) hs)⟩
  rcases hb with hb | hb
  · exact hF b hb
  · omega
theorem Nd.few (h : Nd w0 w p am n s) : 1 ≤ n ∧ n ≤ 16 := by
  obtain ⟨F, h1, h2⟩ := h.ex
  exact h1.few
theorem Nd.le (h : Nd w0 w p am n s) : ∀ i, i < n → (s i).k ≤ (s i).bs.length := by
  obtain ⟨F, h1, h2⟩ := h.ex
  exact h1.le
theorem Nd.room (h : Nd w0 w p am n s) : ∀ i, i < n → (s i).bs.length ≤ 211106232532800 ∧ (s i).B + (s i).bs.length ≤ 9223372036854775807 ∧ All8 (s i).bs := by
  obtain ⟨F, h1, h2⟩ := h.ex
  exact h1.room
theorem Nd.own (h : Nd w0 w p am n s) : w0.heap.size ≤ p := by
  obtain ⟨F, h1, h2⟩ := h.ex
  exact h2 p h1.own
theorem MadeD.nd {w : World} {e : Ending} (hb : Below w0.heap.size w0 w) (h : MadeD w n s e w') : ∃ p, e = .returned (.tuple #[.pointer (some ⟨p, 0, none⟩), .int .i64 0]) ∧ Nd w0 w' p false n s := by
  obtain ⟨⟨p, h1, h2⟩, h3⟩ := h
  have := hb.size
  exact ⟨p, h1, ⟨_, h2, fun b hb' => by omega⟩, hb.trans (h3.mono hb.size)⟩
theorem Nd.append (h : Nd w0 w p am n s) (i : Nat) (hi : i < n) (A : Int) (a : Option Addr) (cap : Nat) (zs : List Nat) (hr : RowB w a zs) (h8 : All8 zs) (hnil : a = none → zs.length = 0 ∧ cap = 0) (hl : (s i).bs.length + zs.length ≤ 211106232532800) (hB : (s i).B + (s i).bs.length + zs.length ≤ 9223372036854775807) (hcb : (s i).c ≤ 4611686018427387904) :
    Calls Tryz.prog 46 #[.pointer (some ⟨p, 0, none⟩), .int .i64 (i : Int), .slice a zs.length cap] w fun e w' => e = .returned (.int .i64 (opS am (s i) 0 A zs).1) ∧ Nd w0 w' p am n (upd s i (opS am (s i) 0 A zs).2) := by
  obtain ⟨F, h1, h2⟩ := h.ex
  exact (opAppend h1 i hi A a cap zs hr h8 hnil hl hB hcb).mono fun e w' hq => ⟨hq.ans, h.went h2 hq.went⟩
theorem Nd.sync (h : Nd w0 w p am n s) (i : Nat) (hi : i < n) (A : Int) (zs : List Nat) (hcb : (s i).c ≤ 4611686018427387904) :
    Calls Tryz.prog 67 #[.pointer (some ⟨p, 0, none⟩), .int .i64 (i : Int)] w fun e w' => e = .returned (.int .i64 (opS am (s i) 1 A zs).1) ∧ Nd w0 w' p am n (upd s i (opS am (s i) 1 A zs).2) := by
  obtain ⟨F, h1, h2⟩ := h.ex
  exact (opSync h1 i hi A zs hcb).mono fun e w' hq => ⟨hq.ans, h.went h2 hq.went⟩
theorem Nd.arm {W : World} (h : Nd w0 w p am n s) (hb : Below w.heap.size w W) (fa : Option Addr) (m cap : Nat) (f : Nat → Fte) (hfs : RowF W fa m f) (hfar : m = 0 ∨ ∀ ad, fa = some ad → ad.block < w0.heap.size ∨ w.heap.size ≤ ad.block) (hft : ∀ i, i < m → (f i).t < 256) :
    Calls Tryz.prog 26 #[.pointer (some ⟨p, 0, none⟩), .slice fa m cap] W fun e w' => e = .returned (.tuple #[]) ∧ Nd w0 w' p true n (armTo s m f n) := by
  obtain ⟨F, h1, h2⟩ := h.ex
  have hN := h.below hb
  exact (arm_ok (h1.below hb) fa m cap f hfs (hfar.imp (fun e => e) fun hfar ad e hF => by
    have := h2 _ hF
    have := h1.lt _ hF
    rcases hfar ad e with h3 | h3 <;> omega) hft).mono fun e w' hq => ⟨hq.1, hN.went h2 hq.2⟩
theorem Nd.strike (h : Nd w0 w p am n s) :
    Calls Tryz.prog 27 #[.pointer (some ⟨p, 0, none⟩)] w fun e w' => e = .returned (.tuple #[]) ∧ Nd w0 w' p false n (strS s n) := by
  obtain ⟨F, h1, h2⟩ := h.ex
  exact (strike_ok h1).mono fun e w' hq => ⟨hq.1, h.went h2 hq.2⟩




theorem Nd.done (h : Nd w0 w p am n s) (i : Nat) (hi : i < n) : Calls Tryz.prog 18 #[.pointer (some ⟨p, 0, none⟩), .int .i64 (i : Int)] w fun e w' => e = .returned (.int .i64 ((s i).c : Int)) ∧ w' = w := by
  obtain ⟨F, h1, h2⟩ := h.ex
  exact done_ok h1 i hi
end

theorem rowB_mark (w : World) (cs : Array Value) (t : TypeId) (m : Nat × Nat) (L : List Nat) (h : ∀ i, i < L.length → cs[i]? = some (.int .u8 ((at0 L i : Nat) : Int))) : RowB (w.alloc (.cells cs t m)) (some ⟨w.heap.size, 0, none⟩) L := by
  refine .inr ⟨_, _, rfl, by simp, fun i hi => ?_⟩
  rw [World.cell?_alloc_mark, Nat.zero_add]
  exact h i hi
theorem rowB_lit (w : World) (L : List Nat) (t : TypeId) : RowB (w.alloc (.cells (L.map encB).toArray t)) (some ⟨w.heap.size, 0, none⟩) L :=
  rowB_mark w _ t _ L fun i hi => by
    rw [List.getElem?_toArray]
    exact mapB_at hi

end Go.Proofs.YtkacfpmninmjkaaGreat
