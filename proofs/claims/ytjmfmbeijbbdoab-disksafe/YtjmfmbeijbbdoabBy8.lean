/- All bytes of an area; what an operation can come to. -/
import Derived.Test.YtjmfmbeijbbdoabBn8
namespace Go.Proofs.Ytjmfmbeijbbdoab
open Go.RowKit

set_option maxRecDepth 100000 in
set_option maxHeartbeats 800000 in
theorem bytesOf_any {w : World} {F : Nat → Prop} {p : Nat} {am : Bool} {n : Nat} {s : Nat → Pt} (h : Dsk w F p am n s) (i : Nat) (hi : i < n) :
    Calls Try.prog 12 #[.pointer (some ⟨p, 0, none⟩), .int .i64 (i : Int)] w fun e w' => (∃ ra rc, e = .returned (.tuple #[.slice ra (s i).bs.length rc, .int .i64 ((s i).k : Int), .bool true]) ∧ OwB w' w.heap.size (.slice ra (s i).bs.length rc) (s i).bs) ∧ Below w.heap.size w w' := by
  have hbd := bounds_ok h i hi
  have hro := h.room i hi
  have hle := h.le i hi
  have hrd := fun w1 hb => readD_ok (h.below (w' := w1) hb) i hi 0 (s i).bs.length (by omega) ((s i).B : Int) (by simp)
  rw [show ((s i).bs.take (0 + (s i).bs.length)).drop 0 = (s i).bs by simp] at hrd
  obtain ⟨B, hBe⟩ : ∃ B, B = (s i).B := ⟨_, rfl⟩
  obtain ⟨bs, hbs⟩ : ∃ bs, bs = (s i).bs := ⟨_, rfl⟩
  obtain ⟨k, hke⟩ : ∃ k, k = (s i).k := ⟨_, rfl⟩
  rw [← hBe, ← hbs, ← hke] at hbd
  rw [← hBe, ← hbs] at hrd hro
  rw [← hbs, ← hke] at hle ⊢
  obtain ⟨L, hL⟩ : ∃ L, L = bs.length := ⟨_, rfl⟩
  rw [← hL] at hbd hrd hro hle ⊢
  obtain ⟨hr1, hr2, _⟩ := hro
  have hw1 : IntKind.i64.wrap (((B + L : Nat) : Int) - (B : Int)) = (L : Int) := by rw [IntKind.wrap_i64]; omega
  have hw2 : IntKind.i64.wrap (((B + k : Nat) : Int) - (B : Int)) = (k : Int) := by rw [IntKind.wrap_i64]; omega
  obtain ⟨G, hG⟩ : ∃ G, G = B + L := ⟨_, rfl⟩
  obtain ⟨H, hH⟩ : ∃ H, H = B + k := ⟨_, rfl⟩
  rw [← hG] at hw1 hbd
  rw [← hH] at hw2 hbd
  have hd1 : ¬ H < B := by omega
  have hd2 : ¬ L < k := by omega
  replace hL := hide_it hL
  clear hBe hbs hke hG hH h
  go_enter Try.func12, Try.ntmps12
  go_wp2_with fail
  refine hbd.mono ?_
  rintro e w1 ⟨rfl, hb1⟩
  have hr := hrd w1 hb1
  have hs1 := hb1.size
  clear hbd hrd
  go_wp2_with fail
  refine hr.mono ?_
  rintro e w2 ⟨⟨r, rfl, ho⟩, hb2⟩
  obtain ⟨ra, rc, er, _⟩ := ho.row
  rw [← hL.out] at er
  subst er
  have ho2 := ho.mono hs1
  have hb3 := hb1.trans (hb2.mono hs1)
  clear hr ho hb1 hb2
  go_wp2_with fail
  refine bodyPost_ret (v := .tuple #[.slice ra L rc, .int .i64 (k : Int), .bool true]) (by simp [results, Try.results12, go_sem]) rfl ?_
  exact ⟨⟨ra, rc, rfl, ho2⟩, hb3⟩

/-- An operation is refused for want of power; or refused by the area; or done. -/
theorem opS_cases (am : Bool) (x : Pt) (kd : Nat) (A : Int) (zs : List Nat) :
    (down am x = true ∧ (opS am x kd A zs).1 = 80 ∧ (opS am x kd A zs).2 = x) ∨ (down am x = false ∧ (opS am x kd A zs).1 = 70 ∧ (opS am x kd A zs).2 = x) ∨
      (down am x = false ∧ (opS am x kd A zs).1 = 0 ∧ (opS am x kd A zs).2.c = x.c + 1 ∧ (opS am x kd A zs).2.fd = x.fd ∧ (opS am x kd A zs).2.fk = x.fk ∧ (opS am x kd A zs).2.ft = x.ft) := by
  unfold opS
  by_cases h : down am x = true
  · rw [if_pos h]; exact .inl ⟨h, rfl, rfl⟩
  · rw [if_neg h]
    have h' : down am x = false := by simpa using h
    unfold opX
    split
    · exact .inr (.inr ⟨h', rfl, rfl, rfl, rfl, rfl⟩)
    · split
      · exact .inr (.inr ⟨h', rfl, rfl, rfl, rfl, rfl⟩)
      · split
        · split
          · exact .inr (.inl ⟨h', rfl, rfl⟩)
          · exact .inr (.inr ⟨h', rfl, rfl, rfl, rfl, rfl⟩)
        · split
          · exact .inr (.inl ⟨h', rfl, rfl⟩)
          · exact .inr (.inr ⟨h', rfl, rfl, rfl, rfl, rfl⟩)
/-- A call that is an operation of the area 0. -/
theorem calS_op (am : Bool) (n : Nat) (s : Nat → Pt) (x : Cal) (hk : 0 ≤ x.k ∧ x.k ≤ 3) (hi : x.i = 0) (hn : 0 < n) : calS am n s x = (ans0 (opS am (s 0) x.k.toNat x.a x.p.p).1, am, upd s 0 (opS am (s 0) x.k.toNat x.a x.p.p).2) := by
  unfold calS
  rw [if_pos hk, if_pos (by unfold inD; rw [hi]; simp; omega), hi]
  rfl
theorem CalOk.zero {w : World} {x : Cal} (h : CalOk w x) : CalOk w { x with i := 0 } := ⟨h.k, by simp, h.a, h.b, h.p, h.f⟩

theorem owb_empty (w : World) : OwB (w.alloc (.cells #[] 5)) w.heap.size (.slice (some ⟨w.heap.size, 0, none⟩) 0 0) [] := OwnS.of_row (own_empty w)
/-- A write to a block that is older than the disk. -/
theorem Nd.poke {w0 w : World} {p : Nat} {am : Bool} {n : Nat} {s : Nat → Pt} {b : Nat} {C : Array Value} {t : TypeId} (h : Nd w0 w p am n s) (hC : w0.heap[b]? = some (.cells C t (0, 0))) (hb : b < w0.heap.size) (o : Nat) (u : Value) : Nd (w0.setCell ⟨b, o, none⟩ u) (w.setCell ⟨b, o, none⟩ u) p am n s := by
  obtain ⟨F, h1, h2⟩ := h.ex
  have hs := h.bel.size
  refine ⟨⟨F, h1.chg (G := fun j => j = b) ((Chg.refl _ w).setCell _ _ (fun _ => rfl)) (fun j hj e => by have := h2 j hj; omega), fun j hj => by simpa using h2 j hj⟩, ⟨h.bel.os, h.bel.tape, h.bel.output, by simpa using hs, fun j hj => ?_⟩⟩
  have hj' : j < w0.heap.size := by simpa using hj
  by_cases e : j = b
  · subst e
    rw [heap_setCell_same w0 j o _ _ u hC, heap_setCell_same w j o _ _ u ((h.bel.block j hj').trans hC)]
  · rw [Below.heap_setCell _ _ _ _ e, Below.heap_setCell _ _ _ _ e]
    exact h.bel.block j hj'

end Go.Proofs.Ytjmfmbeijbbdoab
