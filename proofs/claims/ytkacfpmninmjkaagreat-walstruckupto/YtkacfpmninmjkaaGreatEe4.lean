/- Which entries may be: mayBe whole, Check; an entry's bytes: Encode. -/
import Derived.Test.YtkacfpmninmjkaaGreatEe3
namespace Go.Proofs.YtkacfpmninmjkaaGreat
open Go.RowKit

/-- A kind: the six, and none of them. -/
theorem kind_cases (k : Int) : k = 1 ∨ k = 2 ∨ k = 3 ∨ k = 4 ∨ k = 5 ∨ k = 6 ∨ ¬ (1 ≤ k ∧ k ≤ 6) := by omega
theorem cnt_none {k : Int} (h : ¬ (1 ≤ k ∧ k ≤ 6)) : cnt k = 0 := by
  unfold cnt
  rw [if_neg (by omega), if_neg (by omega), if_neg (by omega), if_neg (by omega)]
theorem cnt_lt (k : Int) : cnt k < 256 := by
  rcases kind_cases k with rfl | rfl | rfl | rfl | rfl | rfl | h
  all_goals first | decide | (rw [cnt_none h]; decide)
theorem beq_none {k : Int} (h : ¬ (1 ≤ k ∧ k ≤ 6)) : (k == 1) = false ∧ (k == 2) = false ∧ (k == 3) = false ∧ (k == 4) = false ∧ (k == 5) = false ∧ (k == 6) = false := by
  refine ⟨?_, ?_, ?_, ?_, ?_, ?_⟩ <;> (simp; omega)
theorem hav_k (k : Int) : havI (cnt k) 1 = hk k ∧ havI (cnt k) 2 = hs k ∧ havI (cnt k) 4 = hc k ∧ havI (cnt k) 8 = hd k ∧ havI (cnt k) 16 = hv k := by
  rcases kind_cases k with rfl | rfl | rfl | rfl | rfl | rfl | h
  all_goals first | decide | skip
  obtain ⟨h1, h2, h3, h4, h5, h6⟩ := beq_none h
  rw [cnt_none h]
  simp [hk, hs, hc, hd, hv, h1, h2, h3, h4, h5, h6, havI, hav]
theorem cnt_zero (k : Int) : (((cnt k : Nat) : Int) != 0) = (decide (1 ≤ k) && decide (k ≤ 6)) := by
  rcases kind_cases k with rfl | rfl | rfl | rfl | rfl | rfl | h
  all_goals first | decide | skip
  rw [cnt_none h]
  by_cases h1 : 1 ≤ k
  · have : ¬ k ≤ 6 := by omega
    simp [this]
  · simp [h1]

theorem mayBe_any (x : En) (a : Option Addr) (cp : Nat) (w : World) :
    Calls Tryz.prog 76 #[valE x a cp] w fun e w' => e = .returned (.bool (mayE x)) ∧ Below w.heap.size w w' := by
  obtain ⟨p1, p2, p3, p4, p5⟩ := hav_k x.kind
  have hz := cnt_zero x.kind
  have hcl := cnt_lt x.kind
  have hcnt := fun w => countsOf_any x.kind w
  have hm : mayE x = ((decide (1 ≤ x.kind) && decide (x.kind ≤ 6)) && fitI (hk x.kind) x.key.size 1 255 && fitI (hs x.kind) x.stamp 0 4611686018427387904 && fitI (hc x.kind) x.count 0 2147483647 &&
    (hd x.kind || !x.dead) && fitI (hv x.kind && !x.dead) x.val.length 0 4096) := rfl
  rw [← hz, ← p1, ← p2, ← p3, ← p4, ← p5] at hm
  rw [hm]
  clear hm hz p1 p2 p3 p4 p5
  generalize cnt x.kind = c at *
  cases hz : ((c : Int) != 0)
  · simpa using mayBe_z x a cp c w hcnt hcl hz
  cases hK : fitI (havI c 1) (x.key.size : Int) 1 255
  · simpa using mayBe_k x a cp c w hcnt hcl hz hK
  cases hS : fitI (havI c 2) x.stamp 0 4611686018427387904
  · simpa using mayBe_s x a cp c w hcnt hcl hz hK hS
  cases hC : fitI (havI c 4) x.count 0 2147483647
  · simpa using mayBe_c x a cp c w hcnt hcl hz hK hS hC
  cases h8 : havI c 8
  · cases hdd : x.dead
    · cases h16 : havI c 16
      · simpa using mayBe_v3 x a cp c w hcnt hcl hz hK hS hC h8 hdd h16
      · simpa using mayBe_v4 x a cp c w hcnt hcl hz hK hS hC h8 hdd h16
    · simpa using mayBe_d x a cp c w hcnt hcl hz hK hS hC h8 (by rw [hdd]; rfl)
  · cases h16 : havI c 16
    · simpa using mayBe_v1 x a cp c w hcnt hcl hz hK hS hC h8 h16
    · simpa using mayBe_v2 x a cp c w hcnt hcl hz hK hS hC h8 h16

/-- What Check answers. -/
def chkE (x : En) : Nat := if mayE x then 0 else 100

set_option maxRecDepth 100000 in
set_option maxHeartbeats 400000 in
theorem check_any (x : En) (a : Option Addr) (cp : Nat) (w : World) :
    Calls Tryz.prog 51 #[valE x a cp] w fun e w' => e = .returned (.int .i64 ((chkE x : Nat) : Int)) ∧ Below w.heap.size w w' := by
  have hb := boxE_below w x a cp
  have hm := mayBe_any x a cp (boxE w x a cp)
  obtain ⟨B, hB⟩ : ∃ B, B = mayE x := ⟨_, rfl⟩
  have HC : Hid (chkE x = if B then 0 else 100) := by unfold Hid chkE; rw [hB]
  rw [← hB] at hm
  clear hB
  generalize chkE x = r at *
  obtain ⟨kind, stamp, count, key, val, dead⟩ := x
  go_enter Tryz.func51, Tryz.ntmps51
  go_wp2_with fail
  refine hm.mono ?_
  rintro e w1 ⟨rfl, hb1⟩
  have hbw := hb.trans (hb1.mono hb.size)
  clear hm hb hb1
  cases B
  · go_wp2_with fail
    go_ret
    rw [HC.out]
    exact ⟨rfl, hbw⟩
  · go_wp2_with fail
    go_ret
    rw [HC.out]
    exact ⟨rfl, hbw⟩

/-- What Encode answers: bytes of the call's own, or none, and the error. -/
def EncTo (w : World) (x : En) (e : Ending) (w' : World) : Prop :=
  (∃ v, e = .returned (.tuple #[v, .int .i64 ((chkE x : Nat) : Int)]) ∧ OwnB w' w.heap.size v (if mayE x then encE x else [])) ∧ Below w.heap.size w w'

set_option maxRecDepth 100000 in
set_option maxHeartbeats 400000 in
theorem encode_no (x : En) (a : Option Addr) (cp : Nat) (w : World) (hm : mayE x = false) :
    Calls Tryz.prog 77 #[valE x a cp] w fun e w' => EncTo w x e w' := by
  have hb := boxE_below w x a cp
  have hk := check_any x a cp (boxE w x a cp)
  have HC : Hid (chkE x = 100) := by unfold Hid chkE; rw [hm]; rfl
  rw [HC.out] at hk
  have HM := hide_it hm
  clear hm
  have hfin : ∀ w', Below w.heap.size w w' → EncTo w x (.returned (.tuple #[.slice none 0 0, .int .i64 100])) w' := fun w' h => by
    refine ⟨⟨_, by rw [HC.out]; rfl, ?_⟩, h⟩
    rw [HM.out]; exact World.ownsRow_nil _ _ _ _
  generalize EncTo w x = Q at *
  obtain ⟨kind, stamp, count, key, val, dead⟩ := x
  go_enter Tryz.func77, Tryz.ntmps77
  go_wp2_with fail
  refine hk.mono ?_
  rintro e w1 ⟨rfl, hb1⟩
  have hbw := hfin _ (hb.trans (hb1.mono hb.size))
  clear hk hb hb1 hfin HC HM
  go_wp2_with fail
  first | exact hbw | (go_ret2; exact hbw)

/-- An entry in the block p. -/
structure InE (w : World) (p : Nat) (x : En) (a : Option Addr) (c : Nat) : Prop where
  c0 : w.cell? ⟨p, 0, none⟩ = some (.int .i64 x.kind)
  c1 : w.cell? ⟨p, 1, none⟩ = some (.int .i64 x.stamp)
  c2 : w.cell? ⟨p, 2, none⟩ = some (.int .i64 x.count)
  c3 : w.cell? ⟨p, 3, none⟩ = some (.string x.key)
  c4 : w.cell? ⟨p, 4, none⟩ = some (.slice a x.val.length c)
  c5 : w.cell? ⟨p, 5, none⟩ = some (.bool x.dead)
theorem InE.below {w w' : World} {B p : Nat} {x : En} {a : Option Addr} {c : Nat} (h : InE w p x a c) (hb : Below B w w') (hp : p < B) : InE w' p x a c :=
  ⟨(hb.cell (p := ⟨p, 0, none⟩) hp).trans h.c0, (hb.cell (p := ⟨p, 1, none⟩) hp).trans h.c1, (hb.cell (p := ⟨p, 2, none⟩) hp).trans h.c2, (hb.cell (p := ⟨p, 3, none⟩) hp).trans h.c3, (hb.cell (p := ⟨p, 4, none⟩) hp).trans h.c4, (hb.cell (p := ⟨p, 5, none⟩) hp).trans h.c5⟩
theorem InE.box (w : World) (x : En) (a : Option Addr) (c : Nat) : InE (boxE w x a c) w.heap.size x a c := by
  constructor <;> (rw [cell_of_row _ _ _ _ _ _ (heap_alloc_new w _)]; rfl)

theorem have_lit (c o : Int) (b : Bool) (w : World) (h : (0 ≤ c ∧ c < 256) ∧ (0 ≤ o ∧ o < 256) ∧ hav c.toNat o.toNat = b) : Calls Tryz.prog 99 #[.int .u8 c, .int .u8 o] w fun e w' => e = .returned (.bool b) ∧ w' = w := by
  obtain ⟨⟨h1, h2⟩, ⟨h3, h4⟩, h5⟩ := h
  have hx := have_any c.toNat o.toNat w (by omega) (by omega)
  rwa [h5, show ((c.toNat : Nat) : Int) = c by omega, show ((o.toNat : Nat) : Int) = o by omega] at hx
theorem beP_one (v : Nat) (h : v < 256) : beP 1 v 1 = [v] := by
  simp [beP, List.range_succ, Nat.mod_eq_of_lt h]
end Go.Proofs.YtkacfpmninmjkaaGreat
