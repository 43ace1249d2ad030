/- An area of the call's own; what the laws begin with: some calls whose answers the document fixes. -/
import Derived.Test.YtejaaalgnbnalaaAr6
import Derived.Lib.SlBytesConst
namespace Go.Proofs.Ytejaaalgnbnalaa
open Go.RowKit

/-- An area in memory that was made since W0; all that is older stands. -/
structure Na (W0 w : World) (p B : Nat) (bs : List Nat) (k : Nat) : Prop where
  ex : ∃ v, Ar w p 0 v B bs k ∧ ∀ j, v.ownBlock = some j → W0.heap.size ≤ j
  low : W0.heap.size ≤ p
  bel : Below W0.heap.size W0 w

section
variable {W0 w w' : World} {p B B' : Nat} {bs bs' : List Nat} {k k' : Nat} {v : Value}
theorem Na.moved (h : Na W0 w p B bs k) (hv : ∀ j, v.ownBlock = some j → W0.heap.size ≤ j) (hm : Moved w p 0 v B' bs' k' w') : Na W0 w' p B' bs' k' := by
  obtain ⟨⟨v', h1, h2⟩, hc, _⟩ := hm
  have hs := h.bel.size
  refine ⟨⟨v', h1, fun j hj => ?_⟩, h.low, h.bel.trans (hc.below (fun j hj => ?_) hs)⟩
  · rcases h2 with h2 | h2
    · exact hv j (h2 ▸ hj)
    · exact Nat.le_trans hs (h2 j hj)
  · rcases hj with rfl | hj
    · exact h.low
    · exact hv j hj
theorem Na.below (h : Na W0 w p B bs k) (hb : Below w.heap.size w w') : Na W0 w' p B bs k := by
  obtain ⟨v, h1, h2⟩ := h.ex
  exact ⟨⟨v, h1.below hb, h2⟩, h.low, h.bel.trans (hb.mono h.bel.size)⟩
theorem Na.append (h : Na W0 w p B bs k) (a : Option Addr) (cap : Nat) (zs : List Nat) (hr : RowB w a zs) (h8 : All8 zs) (hnil : a = none → zs.length = 0 ∧ cap = 0) (hl : bs.length + zs.length ≤ 211106232532800) (hB : B + bs.length + zs.length ≤ 9223372036854775807) :
    Calls Try.prog 8 #[.pointer (some ⟨p, 0, none⟩), .slice a zs.length cap] w fun e w' => e = .returned (.int .i64 0) ∧ Na W0 w' p B (bs ++ zs) k := by
  obtain ⟨v, h1, h2⟩ := h.ex
  exact (append_any w h1 a cap zs hr h8 hnil hl hB).mono fun e w' q => ⟨q.1, h.moved h2 q.2⟩
theorem Na.sync (h : Na W0 w p B bs k) : Calls Try.prog 18 #[.pointer (some ⟨p, 0, none⟩)] w fun e w' => e = .returned (.int .i64 0) ∧ Na W0 w' p B bs bs.length := by
  obtain ⟨v, h1, h2⟩ := h.ex
  exact (sync_any w h1).mono fun e w' q => ⟨q.1, h.moved h2 q.2⟩
theorem Na.trim (h : Na W0 w p B bs k) (hk : k ≤ bs.length) (m : Nat) (hm : m ≤ k) (E : Int) (hE : E = (B : Int) + (m : Int)) :
    Calls Try.prog 19 #[.pointer (some ⟨p, 0, none⟩), .int .i64 E] w fun e w' => e = .returned (.int .i64 0) ∧ Na W0 w' p (B + m) (bs.drop m) (k - m) := by
  obtain ⟨v, h1, h2⟩ := h.ex
  exact (trim_ok w h1 hk m hm E hE).mono fun e w' q => ⟨q.1, h.moved h2 q.2⟩
theorem Na.crash (h : Na W0 w p B bs k) (hk : k ≤ bs.length) (E : Int) (t : Nat) (ht : t < 256) (c : Nat) (hc : c = min E.toNat (bs.length - k)) :
    Calls Try.prog 13 #[.pointer (some ⟨p, 0, none⟩), .int .i64 E, .int .u8 (t : Int)] w fun e w' => e = .returned (.int .i64 0) ∧ Na W0 w' p B (crashB bs k c t) (k + c) := by
  obtain ⟨v, h1, h2⟩ := h.ex
  exact (crash_any w h1 hk E t ht c hc).mono fun e w' q => ⟨q.1, h.moved h2 q.2⟩
theorem Na.read (h : Na W0 w p B bs k) (i m : Nat) (him : i + m ≤ bs.length) (E : Int) (hE : E = (B : Int) + (i : Int)) :
    Calls Try.prog 15 #[.pointer (some ⟨p, 0, none⟩), .int .i64 E, .int .i64 (m : Int)] w fun e w' => Tells w ((bs.take (i + m)).drop i) 0 e w' ∧ Na W0 w' p B bs k := by
  obtain ⟨v, h1, h2⟩ := h.ex
  exact (read_ok w h1 i m him E hE).mono fun e w' q => ⟨q, h.below q.bel⟩
theorem Na.bounds (h : Na W0 w p B bs k) (hk : k ≤ bs.length) :
    Calls Try.prog 10 #[.pointer (some ⟨p, 0, none⟩)] w fun e w' => e = .returned (.tuple #[.int .i64 (B : Int), .int .i64 ((B + k : Nat) : Int), .int .i64 ((B + bs.length : Nat) : Int)]) ∧ Below w.heap.size w w' := by
  obtain ⟨v, h1, h2⟩ := h.ex
  exact bounds_any w h1 hk
theorem Na.image (h : Na W0 w p B bs k) (hk : k ≤ bs.length) :
    Calls Try.prog 11 #[.pointer (some ⟨p, 0, none⟩)] w fun e w' => Imaged w B (bs.take k) e w' := by
  obtain ⟨v, h1, h2⟩ := h.ex
  exact image_any w h1 hk
theorem Na.new (W0 w : World) (hb : Below W0.heap.size W0 w) : Na W0 (w.alloc (.cells #[.int .i64 0, .int .i64 0, .slice none 0 0] 59)) w.heap.size 0 [] 0 :=
  ⟨⟨_, ar_new w, fun j hj => by cases hj⟩, hb.size, hb.alloc hb.size _⟩
end

theorem rowB_mark (w : World) (cs : Array Value) (t : TypeId) (m : Nat × Nat) (L : List Nat) (h : ∀ i, i < L.length → cs[i]? = some (.int .u8 ((at0 L i : Nat) : Int))) : RowB (w.alloc (.cells cs t m)) (some ⟨w.heap.size, 0, none⟩) L := by
  refine .inr ⟨_, _, rfl, by simp, fun i hi => ?_⟩
  rw [World.cell?_alloc_mark, Nat.zero_add]
  exact h i hi

set_option maxRecDepth 100000 in
set_option maxHeartbeats 400000 in
theorem same_any (a b : Option Addr) (ca cb : Nat) (zs : List Nat) (n : Nat) (hz : zs.length = n) (w : World) (ha : RowB w a zs) (hb : RowB w b zs) (hna : a = none → zs.length = 0 ∧ ca = 0) (hnb : b = none → zs.length = 0 ∧ cb = 0) :
    Calls Try.prog 12 #[.slice a n ca, .slice b n cb] w fun e w' => e = .returned (.bool true) ∧ w' = w := by
  have c1 := conv_row ha hna
  have c2 := conv_row hb hnb
  rw [hz] at c1 c2
  obtain ⟨s1, h1⟩ : ∃ s, s = strOf zs := ⟨_, rfl⟩
  rw [← h1] at c1 c2
  clear ha hb hna hnb hz h1
  go_enter Try.func12, Try.ntmps12
  go_wp2
  go_ret
  exact ⟨rfl, rfl⟩

end Go.Proofs.Ytejaaalgnbnalaa
