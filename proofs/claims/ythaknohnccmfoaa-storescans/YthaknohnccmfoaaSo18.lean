/- Two answers that are the same are told alike. -/
import Derived.Test.YthaknohnccmfoaaSo17
namespace Go.Proofs.Ythaknohnccmfoaa
open Go.RowKit Go.Maps

/-- What a call answers. -/
structure Td where
  e : Int
  n : Int
  m : Int
  is : Bool
  b : List Nat
  p : List (List UInt8 × List Nat)
  l : List (List UInt8 × Ver)
def zeroTd : Td := ⟨0, 0, 0, false, [], [], []⟩
/-- It is not too great. -/
structure TdFine (t : Td) : Prop where
  b : t.b.length ≤ 4096
  p : t.p.length ≤ 4000000000000
  pz : ∀ x ∈ t.p, x.2.length ≤ 4096
  l : t.l.length ≤ 4000000000000
  lz : ∀ x ∈ t.l, x.2.b.length ≤ 4096
/-- The parts of an answer in memory. -/
structure TdAt (w : World) (vb vp vl : Value) (t : Td) : Prop where
  b : OwnB w 0 vb t.b
  p : ∃ zp, RowP w vp zp ∧ saysP zp = t.p
  l : ∃ zl, RowV w vl zl ∧ saysV zl = t.l
def TdIs (w : World) (v : Value) (t : Td) : Prop := ∃ vb vp vl, v = .agg #[.int .i64 t.e, .int .i64 t.n, .int .i64 t.m, .bool t.is, vb, vp, vl] ∧ TdAt w vb vp vl t
theorem TdAt.below {w w' : World} {vb vp vl : Value} {t : Td} (h : TdAt w vb vp vl t) (hb : Below w.heap.size w w') : TdAt w' vb vp vl t := by
  obtain ⟨zp, h1, h2⟩ := h.p
  obtain ⟨zl, h3, h4⟩ := h.l
  exact ⟨h.b.below hb, ⟨zp, h1.below hb, h2⟩, ⟨zl, h3.below hb, h4⟩⟩
theorem TdIs.below {w w' : World} {v : Value} {t : Td} (h : TdIs w v t) (hb : Below w.heap.size w w') : TdIs w' v t := by
  obtain ⟨vb, vp, vl, e, h1⟩ := h
  exact ⟨vb, vp, vl, e, h1.below hb⟩
theorem rowP_nil (w : World) : RowP w (.slice none 0 0) [] := ⟨OwnS.nil _ _ _ _, fun _ h => by cases h⟩
theorem rowV_nil (w : World) : RowV w (.slice none 0 0) [] := ⟨OwnS.nil _ _ _ _, fun _ h => by cases h⟩
theorem tdAt_zero (w : World) (e n m : Int) (is : Bool) : TdAt w (.slice none 0 0) (.slice none 0 0) (.slice none 0 0) ⟨e, n, m, is, [], [], []⟩ := ⟨World.ownsRow_nil _ _ _ _, ⟨[], rowP_nil w, rfl⟩, ⟨[], rowV_nil w, rfl⟩⟩

set_option maxRecDepth 100000 in
set_option maxHeartbeats 4000000 in
theorem alike_same {w : World} {v1 v2 : Value} {t : Td} (h1 : TdIs w v1 t) (h2 : TdIs w v2 t) (hf : TdFine t) : Calls Try.prog 12 #[v1, v2] w fun e w' => e = .returned (.bool true) ∧ Below w.heap.size w w' := by
  obtain ⟨b1, p1, l1, rfl, a1⟩ := h1
  obtain ⟨b2, p2, l2, rfl, a2⟩ := h2
  obtain ⟨x1, y1, e1, r1, _⟩ := a1.b.row
  obtain ⟨x2, y2, e2, r2, _⟩ := a2.b.row
  obtain ⟨zp1, hp1, sp1⟩ := a1.p
  obtain ⟨zp2, hp2, sp2⟩ := a2.p
  obtain ⟨zl1, hl1, sl1⟩ := a1.l
  obtain ⟨zl2, hl2, sl2⟩ := a2.l
  subst e1
  subst e2
  obtain ⟨q1, d1, f1, _⟩ := OwnS.open hp1.own
  obtain ⟨q2, d2, f2, _⟩ := OwnS.open hp2.own
  obtain ⟨q3, d3, f3, _⟩ := OwnS.open hl1.own
  obtain ⟨q4, d4, f4, _⟩ := OwnS.open hl2.own
  have hbl := hf.b
  have hbe := fun z (hz : Below w.heap.size w z) => beq_same x1 x2 t.b.length y1 y2 t.b z (r1.below hz) (r2.below hz) rfl (by omega)
  have hpe := fun z (hz : Below w.heap.size w z) => pairsAlike_same (hp1.below hz) (hp2.below hz) (sp1.trans sp2.symm) (by have := hf.p; rw [← sp1] at this; simpa [saysP] using this) (fun x hx => hf.pz (x.k.data.toList, x.z) (by rw [← sp1]; exact List.mem_map.2 ⟨x, hx, rfl⟩))
  have hle := fun z (hz : Below w.heap.size w z) => versionsAlike_same (hl1.below hz) (hl2.below hz) (sl1.trans sl2.symm) (by have := hf.l; rw [← sl1] at this; simpa [saysV] using this) (fun x hx => hf.lz (x.k.data.toList, verOf x) (by rw [← sl1]; exact List.mem_map.2 ⟨x, hx, rfl⟩))
  subst f1
  subst f2
  subst f3
  subst f4
  obtain ⟨W, hW⟩ : ∃ W, W = (w.alloc (.cells #[.int .i64 t.e, .int .i64 t.n, .int .i64 t.m, .bool t.is, .slice x1 t.b.length y1, .slice q1 zp1.length d1, .slice q3 zl1.length d3] 35)).alloc (.cells #[.int .i64 t.e, .int .i64 t.n, .int .i64 t.m, .bool t.is, .slice x2 t.b.length y2, .slice q2 zp2.length d2, .slice q4 zl2.length d4] 35) := ⟨_, rfl⟩
  have hb0 : Below w.heap.size w W := by rw [hW]; exact ((Below.refl _ _).alloc (Nat.le_refl _) _).alloc (by simp) _
  have k1 : W.heap[w.heap.size]? = some (.cells #[.int .i64 t.e, .int .i64 t.n, .int .i64 t.m, .bool t.is, .slice x1 t.b.length y1, .slice q1 zp1.length d1, .slice q3 zl1.length d3] 35 (0, 0)) := by rw [hW, Below.heap_alloc _ _ _ (by simp)]; exact heap_alloc_new w _
  have k2 : W.heap[w.heap.size + 1]? = some (.cells #[.int .i64 t.e, .int .i64 t.n, .int .i64 t.m, .bool t.is, .slice x2 t.b.length y2, .slice q2 zp2.length d2, .slice q4 zl2.length d4] 35 (0, 0)) := by
    have := heap_alloc_new (w.alloc (.cells #[.int .i64 t.e, .int .i64 t.n, .int .i64 t.m, .bool t.is, .slice x1 t.b.length y1, .slice q1 zp1.length d1, .slice q3 zl1.length d3] 35)) (.cells #[.int .i64 t.e, .int .i64 t.n, .int .i64 t.m, .bool t.is, .slice x2 t.b.length y2, .slice q2 zp2.length d2, .slice q4 zl2.length d4] 35)
    rw [hW]; simpa using this
  have hWz : W.heap.size = w.heap.size + 1 + 1 := by rw [hW]; simp
  have cs : ∀ z, Below W.heap.size W z → (∀ j u, (#[.int .i64 t.e, .int .i64 t.n, .int .i64 t.m, .bool t.is, .slice x1 t.b.length y1, .slice q1 zp1.length d1, .slice q3 zl1.length d3] : Array Value)[j]? = some u → z.cell? ⟨w.heap.size, j, none⟩ = some u) ∧ (∀ j u, (#[.int .i64 t.e, .int .i64 t.n, .int .i64 t.m, .bool t.is, .slice x2 t.b.length y2, .slice q2 zp2.length d2, .slice q4 zl2.length d4] : Array Value)[j]? = some u → z.cell? ⟨w.heap.size + 1, j, none⟩ = some u) := fun z hz =>
    ⟨fun j u hu => (cell_of_row _ _ _ _ _ _ ((hz.block _ (by omega)).trans k1)).trans hu, fun j u hu => (cell_of_row _ _ _ _ _ _ ((hz.block _ (by omega)).trans k2)).trans hu⟩
  have hb := hbe W hb0
  have CS := hide_it cs
  have HB0 := hide_it hb0
  obtain ⟨u1, u2⟩ := cs W (Below.refl _ _)
  have c0 := u1 0 _ rfl
  have c1 := u1 1 _ rfl
  have c2 := u1 2 _ rfl
  have c3 := u1 3 _ rfl
  have c4 := u1 4 _ rfl
  have g0 := u2 0 _ rfl
  have g1 := u2 1 _ rfl
  have g2 := u2 2 _ rfl
  have g3 := u2 3 _ rfl
  have g4 := u2 4 _ rfl
  generalize t.b.length = BL at *
  clear hp1 hp2 hl1 hl2 a1 a2 r1 r2 u1 u2 cs k1 k2 hbe sp1 sp2 sl1 sl2 hf hbl
  go_enter Try.func12, Try.ntmps12
  go_wp2_with fail
  rw [← hW]
  clear hW
  refine hb.mono ?_
  rintro e w1 ⟨rfl, q, rfl⟩
  have hy1 : Below W.heap.size W (W.drewN q) := below_drewN (Below.refl _ _) _
  have hp := hpe (W.drewN q) (HB0.out.trans (hy1.mono HB0.out.size))
  have HY1 := hide_it hy1
  obtain ⟨u1, u2⟩ := CS.out _ hy1
  have c5 := u1 5 _ rfl
  have g5 := u2 5 _ rfl
  generalize W.drewN q = W1 at *
  clear hb hy1 u1 u2 hpe c0 c1 c2 c3 c4 g0 g1 g2 g3 g4
  go_wp2_with fail
  refine hp.mono ?_
  rintro e w2 ⟨rfl, hb2⟩
  have hy2 : Below W.heap.size W w2 := HY1.out.trans (hb2.mono HY1.out.size)
  have hl := hle w2 (HB0.out.trans (hy2.mono HB0.out.size))
  have HY2 := hide_it hy2
  obtain ⟨u1, u2⟩ := CS.out _ hy2
  have c6 := u1 6 _ rfl
  have g6 := u2 6 _ rfl
  clear hp hb2 hy2 u1 u2 hle c5 g5
  go_wp2_with fail
  refine hl.mono ?_
  rintro e w3 ⟨rfl, hb3⟩
  have HY3 := hide_it (HB0.out.trans ((HY2.out.trans (hb3.mono HY2.out.size)).mono HB0.out.size))
  clear hl hb3 c6 g6
  go_wp2
  go_ret
  exact ⟨rfl, HY3.out⟩

end Go.Proofs.Ythaknohnccmfoaa
