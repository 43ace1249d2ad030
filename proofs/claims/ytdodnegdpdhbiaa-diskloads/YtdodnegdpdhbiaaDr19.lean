/- The law's Want: what the document answers to a call, and its disk behind it. The law's Want, kind by kind. The law's Want of every call. The program's disk and the document's, beside one another. -/
import Derived.Test.YtdodnegdpdhbiaaDr17
import Derived.Test.YtdodnegdpdhbiaaDr9
import Derived.Test.YtdodnegdpdhbiaaDr15
import Derived.Test.YtdodnegdpdhbiaaDr16
import Derived.Test.YtdodnegdpdhbiaaVa8
import Derived.Test.YtdodnegdpdhbiaaBy8
namespace Go.Proofs.Ytdodnegdpdhbiaa
open Go.RowKit

/-- The world with Want's boxes. -/
abbrev wantW (w : World) (a : Option Addr) (n c : Nat) (am : Bool) (x : Cal) : World :=
  ((((w.alloc (.cells #[.slice a n c, .bool am] 45)).alloc (.cells #[.int .i64 x.k, .int .i64 x.i, .int .i64 x.a, .int .i64 x.b, .slice x.p.a x.p.p.length x.p.c, .slice x.fa x.fn x.fc] 61)).alloc (.cells #[.int .i64 0, .int .i64 0, .int .i64 0, .int .i64 0, .slice none 0 0, .slice none 0 0] 63)).alloc (.cells #[.slice none 0 0, .bool false] 45)).alloc (.cells #[.int .i64 0, .int .i64 0, .int .i64 0, .int .i64 0, .slice none 0 0, .slice none 0 0] 63)
def BxD (W : World) (b : Nat) (a : Option Addr) (n c : Nat) (am : Bool) : Prop := W.heap[b]? = some (.cells #[.slice a n c, .bool am] 45 (0, 0))
def BxT (W : World) (b : Nat) (E X Y Z : Int) (P S : Value) : Prop := W.heap[b]? = some (.cells #[.int .i64 E, .int .i64 X, .int .i64 Y, .int .i64 Z, P, S] 63 (0, 0))
/-- What Want answers. -/
def WantTo (w : World) (F : Nat → Prop) (n : Nat) (r : Ans × Bool × (Nat → Pt)) (e : Ending) (w' : World) : Prop :=
  ∃ vt vd, e = .returned (.tuple #[vt, vd]) ∧ TV w' w.heap.size vt r.1 ∧ NewD w F n r.2.1 r.2.2 vd w'

/-- The five boxes behind Want's switch. -/
structure WB (w : World) (W : World) (a : Option Addr) (n c : Nat) (am : Bool) (x : Cal) (E X Y Z : Int) (P S : Value) : Prop where
  d : BxD W w.heap.size a n c am
  s : BoxC W (w.heap.size + 1) x
  r : BxT W (w.heap.size + 1 + 1) 0 0 0 0 (.slice none 0 0) (.slice none 0 0)
  q : BxD W (w.heap.size + 1 + 1 + 1) none 0 0 false
  t : BxT W (w.heap.size + 1 + 1 + 1 + 1) E X Y Z P S
theorem wantW_size (w : World) (a : Option Addr) (n c : Nat) (am : Bool) (x : Cal) : (wantW w a n c am x).heap.size = w.heap.size + 5 := by simp [wantW]
theorem wantW_below (w : World) (a : Option Addr) (n c : Nat) (am : Bool) (x : Cal) : Below w.heap.size w (wantW w a n c am x) := (((((Below.refl _ _).alloc (Nat.le_refl _) _).alloc (by simp) _).alloc (by simp; omega) _).alloc (by simp; omega) _).alloc (by simp; omega) _
theorem wantW_box (w : World) (a : Option Addr) (n c : Nat) (am : Bool) (x : Cal) : WB w (wantW w a n c am x) a n c am x 0 0 0 0 (.slice none 0 0) (.slice none 0 0) := by
  refine ⟨?_, ?_, ?_, ?_, ?_⟩
  · exact (((Below.heap_alloc _ _ _ (by simp <;> omega)).trans (Below.heap_alloc _ _ _ (by simp <;> omega))).trans (Below.heap_alloc _ _ _ (by simp <;> omega))).trans ((Below.heap_alloc _ _ _ (by simp)).trans (heap_alloc_new w _))
  · have h := heap_alloc_new (w.alloc (.cells #[.slice a n c, .bool am] 45)) (.cells #[.int .i64 x.k, .int .i64 x.i, .int .i64 x.a, .int .i64 x.b, .slice x.p.a x.p.p.length x.p.c, .slice x.fa x.fn x.fc] 61)
    rw [World.size_alloc] at h
    exact ((Below.heap_alloc _ _ _ (by simp <;> omega)).trans (Below.heap_alloc _ _ _ (by simp <;> omega))).trans ((Below.heap_alloc _ _ _ (by simp)).trans h)
  · have h := heap_alloc_new ((w.alloc (.cells #[.slice a n c, .bool am] 45)).alloc (.cells #[.int .i64 x.k, .int .i64 x.i, .int .i64 x.a, .int .i64 x.b, .slice x.p.a x.p.p.length x.p.c, .slice x.fa x.fn x.fc] 61)) (.cells #[.int .i64 0, .int .i64 0, .int .i64 0, .int .i64 0, .slice none 0 0, .slice none 0 0] 63)
    rw [World.size_alloc, World.size_alloc] at h
    exact (Below.heap_alloc _ _ _ (by simp <;> omega)).trans ((Below.heap_alloc _ _ _ (by simp)).trans h)
  · have h := heap_alloc_new (((w.alloc (.cells #[.slice a n c, .bool am] 45)).alloc (.cells #[.int .i64 x.k, .int .i64 x.i, .int .i64 x.a, .int .i64 x.b, .slice x.p.a x.p.p.length x.p.c, .slice x.fa x.fn x.fc] 61)).alloc (.cells #[.int .i64 0, .int .i64 0, .int .i64 0, .int .i64 0, .slice none 0 0, .slice none 0 0] 63)) (.cells #[.slice none 0 0, .bool false] 45)
    rw [World.size_alloc, World.size_alloc, World.size_alloc] at h
    exact (Below.heap_alloc _ _ _ (by simp)).trans h
  · have h := heap_alloc_new ((((w.alloc (.cells #[.slice a n c, .bool am] 45)).alloc (.cells #[.int .i64 x.k, .int .i64 x.i, .int .i64 x.a, .int .i64 x.b, .slice x.p.a x.p.p.length x.p.c, .slice x.fa x.fn x.fc] 61)).alloc (.cells #[.int .i64 0, .int .i64 0, .int .i64 0, .int .i64 0, .slice none 0 0, .slice none 0 0] 63)).alloc (.cells #[.slice none 0 0, .bool false] 45)) (.cells #[.int .i64 0, .int .i64 0, .int .i64 0, .int .i64 0, .slice none 0 0, .slice none 0 0] 63)
    rw [World.size_alloc, World.size_alloc, World.size_alloc, World.size_alloc] at h
    exact h
section
variable {w W W' : World} {a : Option Addr} {n c : Nat} {am : Bool} {x : Cal} {E X Y Z : Int} {P S : Value}
theorem BxD.cells {b : Nat} (h : BxD W b a n c am) : W.cell? ⟨b, 0, none⟩ = some (.slice a n c) ∧ W.cell? ⟨b, 1, none⟩ = some (.bool am) ∧ ∀ i, W.frozen? ⟨b, i, none⟩ = false :=
  ⟨cell_of_row _ _ _ _ _ _ h, cell_of_row _ _ _ _ _ _ h, fun _i => frozen_of_row _ _ _ _ _ h⟩
theorem BxT.cells {b : Nat} (h : BxT W b E X Y Z P S) : W.cell? ⟨b, 0, none⟩ = some (.int .i64 E) ∧ W.cell? ⟨b, 1, none⟩ = some (.int .i64 X) ∧ W.cell? ⟨b, 2, none⟩ = some (.int .i64 Y) ∧ W.cell? ⟨b, 3, none⟩ = some (.int .i64 Z) ∧ W.cell? ⟨b, 4, none⟩ = some P ∧ W.cell? ⟨b, 5, none⟩ = some S ∧ ∀ i, W.frozen? ⟨b, i, none⟩ = false :=
  ⟨cell_of_row _ _ _ _ _ _ h, cell_of_row _ _ _ _ _ _ h, cell_of_row _ _ _ _ _ _ h, cell_of_row _ _ _ _ _ _ h, cell_of_row _ _ _ _ _ _ h, cell_of_row _ _ _ _ _ _ h, fun _i => frozen_of_row _ _ _ _ _ h⟩
theorem WB.below (h : WB w W a n c am x E X Y Z P S) (hb : Below (w.heap.size + 5) W W') : WB w W' a n c am x E X Y Z P S :=
  ⟨(hb.block _ (by omega)).trans h.d, (hb.block _ (by omega)).trans h.s, (hb.block _ (by omega)).trans h.r, (hb.block _ (by omega)).trans h.q, (hb.block _ (by omega)).trans h.t⟩
end
/-- The world behind Want's return. -/
abbrev retW (w W : World) (a : Option Addr) (n c : Nat) (am : Bool) (E X Y Z : Int) (P S : Value) : World := ((((((((W.setCell ⟨w.heap.size + 1 + 1, 0, none⟩ (.int .i64 E)).setCell ⟨w.heap.size + 1 + 1, 1, none⟩ (.int .i64 X)).setCell ⟨w.heap.size + 1 + 1, 2, none⟩ (.int .i64 Y)).setCell ⟨w.heap.size + 1 + 1, 3, none⟩ (.int .i64 Z)).setCell ⟨w.heap.size + 1 + 1, 4, none⟩ (P)).setCell ⟨w.heap.size + 1 + 1, 5, none⟩ (S)).setCell ⟨w.heap.size + 1 + 1 + 1, 0, none⟩ (.slice a n c)).setCell ⟨w.heap.size + 1 + 1 + 1, 1, none⟩ (.bool am)).drew
/-- What Want's boxes are for: the blocks of them, and the other disk's. -/
def boxG (w : World) (F : Nat → Prop) (b : Nat) : Prop := F b ∨ (w.heap.size ≤ b ∧ b < w.heap.size + 5)
section
variable {w W W' : World} {F : Nat → Prop} {a : Option Addr} {n c : Nat} {am : Bool} {s : Nat → Pt} {x : Cal} {E X Y Z : Int} {P S : Value}
theorem TV.mono {base base' : Nat} {v : Value} {A : Ans} (h : TV w base v A) (hb : base' ≤ base) : TV w base' v A := by
  obtain ⟨pa, pc, sa, sc, h1, h2, h3, h4, h5⟩ := h.ex
  refine ⟨⟨pa, pc, sa, sc, h1, h2, fun ad e => Nat.le_trans hb (h3 ad e), ?_, h5⟩, h.len, h.few, h.lens⟩
  rcases h4 with h4 | ⟨b, o, e, hl, hlo, hr⟩
  · exact .inl h4
  · exact .inr ⟨b, o, e, hl, Nat.le_trans hb hlo, fun i hi => by obtain ⟨ra, rc, x1, x2, x3, x4⟩ := hr i hi; exact ⟨ra, rc, x1, x2, x3, fun ad e => Nat.le_trans hb (x4 ad e)⟩⟩
theorem Dd.boxG (h : Dd w F a n s) : Dd w (boxG w F) a n s := h.grow.anti fun b hb => by
  rcases hb with hb | hb
  · exact .inl hb
  · exact .inr hb.1
theorem boxG_lt (hF : ∀ b, F b → b < w.heap.size) {b : Nat} (h : boxG w F b) : b < w.heap.size + 5 := by
  rcases h with h | h
  · have := hF b h; omega
  · exact h.2
theorem want_fin {A : Ans} (hT : TV W (w.heap.size + 5) (.agg #[.int .i64 E, .int .i64 X, .int .i64 Y, .int .i64 Z, P, S]) A) (hD : Dd W (boxG w F) a n s) (hb : Below w.heap.size w W) :
    WantTo w F n (A, am, s) (.returned (.tuple #[.agg #[.int .i64 E, .int .i64 X, .int .i64 Y, .int .i64 Z, P, S], valD a n c am])) (retW w W a n c am E X Y Z P S) := by
  have hc : Chg (fun b => b = w.heap.size + 1 + 1 ∨ b = w.heap.size + 1 + 1 + 1) W (retW w W a n c am E X Y Z P S) :=
    (((((((((Chg.refl _ W).setCell _ _ (fun _ => .inl rfl)).setCell _ _ (fun _ => .inl rfl)).setCell _ _ (fun _ => .inl rfl)).setCell _ _ (fun _ => .inl rfl)).setCell _ _ (fun _ => .inl rfl)).setCell _ _ (fun _ => .inl rfl)).setCell _ _ (fun _ => .inr rfl)).setCell _ _ (fun _ => .inr rfl)).drew
  refine ⟨_, _, rfl, (hT.keep hc.size fun b hb hl => hc.block b hl (by omega)).mono (by omega), ⟨_, _, rfl, (hD.chg (hc.mono fun b _ hb => ?_)).anti fun b hb => .inl hb⟩, ?_⟩
  · exact .inr (by omega)
  · exact hb.trans (hc.below (fun b hb => by omega) hb.size)
theorem WB.putD (h : WB w W a n c am x E X Y Z P S) (a' : Option Addr) (c' : Nat) (am' : Bool) : WB w ((W.setCell ⟨w.heap.size, 0, none⟩ (.slice a' n c')).setCell ⟨w.heap.size, 1, none⟩ (.bool am')) a' n c' am' x E X Y Z P S := by
  have key : ∀ b, b ≠ w.heap.size → ((W.setCell ⟨w.heap.size, 0, none⟩ (.slice a' n c')).setCell ⟨w.heap.size, 1, none⟩ (.bool am')).heap[b]? = W.heap[b]? := fun b hb => by
    rw [Below.heap_setCell _ _ _ _ (by simpa using hb), Below.heap_setCell _ _ _ _ (by simpa using hb)]
  refine ⟨?_, (key _ (by omega)).trans h.s, (key _ (by omega)).trans h.r, (key _ (by omega)).trans h.q, (key _ (by omega)).trans h.t⟩
  unfold BxD
  rw [heap_setCell_same _ w.heap.size 1 _ _ _ (heap_setCell_same W w.heap.size 0 _ _ _ h.d)]; rfl
theorem WB.putT (h : WB w W a n c am x E X Y Z P S) (j : Nat) (v : Value) {E' X' Y' Z' : Int} {P' S' : Value} (hv : (#[.int .i64 E, .int .i64 X, .int .i64 Y, .int .i64 Z, P, S] : Array Value).setIfInBounds j v = #[.int .i64 E', .int .i64 X', .int .i64 Y', .int .i64 Z', P', S']) : WB w (W.setCell ⟨w.heap.size + 1 + 1 + 1 + 1, j, none⟩ v) a n c am x E' X' Y' Z' P' S' := by
  have key : ∀ b, b ≠ w.heap.size + 1 + 1 + 1 + 1 → (W.setCell ⟨w.heap.size + 1 + 1 + 1 + 1, j, none⟩ v).heap[b]? = W.heap[b]? := fun b hb => Below.heap_setCell _ _ _ _ (by simpa using hb)
  refine ⟨(key _ (by omega)).trans h.d, (key _ (by omega)).trans h.s, (key _ (by omega)).trans h.r, (key _ (by omega)).trans h.q, ?_⟩
  unfold BxT
  rw [heap_setCell_same W (w.heap.size + 1 + 1 + 1 + 1) j _ _ _ h.t, hv]
end
end Go.Proofs.Ytdodnegdpdhbiaa

namespace Go.Proofs.Ytdodnegdpdhbiaa
open Go.RowKit

theorem calS_opR {am : Bool} {n : Nat} {s : Nat → Pt} {x : Cal} (hk : 0 ≤ x.k ∧ x.k ≤ 3) : calS am n s x = (ans0 (opR am n s x.k.toNat x.i x.a x.p.p).1, am, (opR am n s x.k.toNat x.i x.a x.p.p).2) := by
  unfold calS opR
  rw [if_pos hk]
  by_cases hi : inD n x.i = true
  · rw [if_pos hi, if_pos hi]
  · rw [if_neg hi, if_neg hi]
section
variable {w : World} {F : Nat → Prop} {a : Option Addr} {n c : Nat} {am : Bool} {s : Nat → Pt}
set_option maxRecDepth 100000 in
set_option maxHeartbeats 1600000 in
theorem want_sync (h : Dd w F a n s) (hF : ∀ b, F b → b < w.heap.size) (x : Cal) (hk : x.k = 1) (hx : CalOk w x) (M : Nat) (hB : Bnd M n s) (hM : M + 1 + x.p.p.length ≤ 70368744177664) :
    Calls Try.prog 24 #[valD a n c am, valC x] w fun e w' => WantTo w F n (calS am n s x) e w' := by
  obtain ⟨W5, hW5⟩ : ∃ W, W = wantW w a n c am x := ⟨_, rfl⟩
  have hB5 := wantW_box w a n c am x
  have hb5 := wantW_below w a n c am x
  have hs5 := wantW_size w a n c am x
  rw [← hW5] at hB5 hb5 hs5
  have hd5 := h.boxG.below hb5
  have hG : ∀ b, boxG w F b → b < W5.heap.size := fun b hb => by have := boxG_lt hF hb; omega
  have hx5 := hx.below hb5
  have hct : ∀ i, i < n → (s i).c + 1 ≤ 4611686018427387904 := fun i hi => by have := hB.cnt i hi; omega
  obtain ⟨r, hr⟩ : ∃ r, r = opR am n s 1 x.i x.a x.p.p := ⟨_, rfl⟩
  have HC : Hid (calS am n s x = (ans0 r.1, am, r.2)) := by
    unfold Hid
    rw [calS_opR (by rw [hk]; decide), hk, hr]; rfl
  have hq := syncR (c := c) (am := am) hd5 hG x.i x.a x.p.p hct
  rw [← hr] at hq
  clear hr
  obtain ⟨xk, xi, xa, xb, ⟨pa, pc, ps⟩, fa, fn, fc, ff⟩ := x
  simp only at hk
  subst hk
  replace hB := hB
  replace hM := hM
  replace hx5 := hx5
  clear h hx hB hM hF hx5
  replace hs5 := hide_it hs5
  replace hd5 := hide_it hd5
  replace hG := hide_it hG
  go_enter Try.func24, Try.ntmps24
  go_wp2_with fail
  change Calls _ _ _ (wantW w a n c am ⟨_, xi, xa, xb, ⟨pa, pc, ps⟩, fa, fn, fc, ff⟩) _
  rw [← hW5]
  refine hq.mono ?_
  rintro e w1 ⟨v, rfl, ⟨a1, c1, rfl, hD1⟩, hb1⟩
  have hB1 := hB5.below (hb1.mono (by rw [hs5.out]; exact Nat.le_refl _))
  have hbw1 := hb5.trans (hb1.mono hb5.size)
  clear hq hW5
  obtain ⟨d0, d1, dz⟩ := hB1.d.cells
  obtain ⟨t0, t1, t2, t3, t4, t5, tz⟩ := hB1.t.cells
  go_wp2_with fail
  obtain ⟨W2, hW2⟩ : ∃ W, W = ((w1.setCell ⟨w.heap.size, 0, none⟩ (.slice a1 n c1)).setCell ⟨w.heap.size, 1, none⟩ (.bool am)).setCell ⟨w.heap.size + 1 + 1 + 1 + 1, 0, none⟩ (.int .i64 r.1) := ⟨_, rfl⟩
  have hBn := (hB1.putD a1 c1 am).putT 0 (.int .i64 r.1) rfl
  rw [← hW2] at hBn
  have hcg : Chg (boxG w F) w1 W2 := by
    rw [hW2]
    exact (((Chg.refl _ w1).setCell _ _ (fun _ => .inr ⟨by simp, by simp⟩)).setCell _ _ (fun _ => .inr ⟨by simp, by simp⟩)).setCell _ _ (fun _ => .inr ⟨by simp <;> omega, by simp <;> omega⟩)
  have hDn := hD1.chg hcg
  have hbn : Below w.heap.size w W2 := by
    rw [hW2]
    exact ((hbw1.setCell (Nat.le_refl _) _).setCell (Nat.le_refl _) _).setCell (by simp <;> omega) _
  have hTn : TV W2 (w.heap.size + 5) _ (ans0 r.1) := tv0 W2 (w.heap.size + 5) r.1 0 0 0
  rw [← hW2]
  clear hW2 hB1 hbw1 hcg hD1 d0 d1 dz t0 t1 t2 t3 t4 t5 tz
  obtain ⟨r0, r1, r2, r3, r4, r5, rz⟩ := hBn.r.cells
  obtain ⟨q0, q1, qz⟩ := hBn.q.cells
  obtain ⟨d0, d1, dz⟩ := hBn.d.cells
  obtain ⟨t0, t1, t2, t3, t4, t5, tz⟩ := hBn.t.cells
  have hend := want_fin (c := c1) (am := am) hTn hDn hbn
  rw [← HC.out] at hend
  clear hBn hTn hDn hbn HC
  go_region
  go_wp2_with fail
  refine bodyPost_ret (v := .tuple #[.agg #[.int .i64 r.1, .int .i64 0, .int .i64 0, .int .i64 0, (.slice none 0 0), (.slice none 0 0)], valD a1 n c1 am]) ?_ rfl hend
  simp [results, Try.results24, go_sem, r0, r1, r2, r3, r4, r5, q0, q1]
set_option maxRecDepth 100000 in
set_option maxHeartbeats 1600000 in
theorem want_append (h : Dd w F a n s) (hF : ∀ b, F b → b < w.heap.size) (x : Cal) (hk : x.k = 0) (hx : CalOk w x) (M : Nat) (hB : Bnd M n s) (hM : M + 1 + x.p.p.length ≤ 70368744177664) :
    Calls Try.prog 24 #[valD a n c am, valC x] w fun e w' => WantTo w F n (calS am n s x) e w' := by
  obtain ⟨W5, hW5⟩ : ∃ W, W = wantW w a n c am x := ⟨_, rfl⟩
  have hB5 := wantW_box w a n c am x
  have hb5 := wantW_below w a n c am x
  have hs5 := wantW_size w a n c am x
  rw [← hW5] at hB5 hb5 hs5
  have hd5 := h.boxG.below hb5
  have hG : ∀ b, boxG w F b → b < W5.heap.size := fun b hb => by have := boxG_lt hF hb; omega
  have hx5 := hx.below hb5
  have hct : ∀ i, i < n → (s i).c + 1 ≤ 4611686018427387904 := fun i hi => by have := hB.cnt i hi; omega
  obtain ⟨r, hr⟩ : ∃ r, r = opR am n s 0 x.i x.a x.p.p := ⟨_, rfl⟩
  have HC : Hid (calS am n s x = (ans0 r.1, am, r.2)) := by
    unfold Hid
    rw [calS_opR (by rw [hk]; decide), hk, hr]; rfl
  have hq := appendR (c := c) (am := am) hd5 hG x.i x.a x.p.a x.p.c x.p.p hx5.p.row hx5.p.none hx5.p.all hct (fun i hi => by have := hB.len i hi; omega) (fun i hi => by have := hB.room i hi; omega)
  rw [← hr] at hq
  clear hr
  obtain ⟨xk, xi, xa, xb, ⟨pa, pc, ps⟩, fa, fn, fc, ff⟩ := x
  simp only at hk
  subst hk
  replace hB := hB
  replace hM := hM
  replace hx5 := hx5
  clear h hx hB hM hF hx5
  replace hs5 := hide_it hs5
  replace hd5 := hide_it hd5
  replace hG := hide_it hG
  go_enter Try.func24, Try.ntmps24
  go_wp2_with fail
  change Calls _ _ _ (wantW w a n c am ⟨_, xi, xa, xb, ⟨pa, pc, ps⟩, fa, fn, fc, ff⟩) _
  rw [← hW5]
  refine hq.mono ?_
  rintro e w1 ⟨v, rfl, ⟨a1, c1, rfl, hD1⟩, hb1⟩
  have hB1 := hB5.below (hb1.mono (by rw [hs5.out]; exact Nat.le_refl _))
  have hbw1 := hb5.trans (hb1.mono hb5.size)
  clear hq hW5
  obtain ⟨d0, d1, dz⟩ := hB1.d.cells
  obtain ⟨t0, t1, t2, t3, t4, t5, tz⟩ := hB1.t.cells
  go_wp2_with fail
  obtain ⟨W2, hW2⟩ : ∃ W, W = ((w1.setCell ⟨w.heap.size, 0, none⟩ (.slice a1 n c1)).setCell ⟨w.heap.size, 1, none⟩ (.bool am)).setCell ⟨w.heap.size + 1 + 1 + 1 + 1, 0, none⟩ (.int .i64 r.1) := ⟨_, rfl⟩
  have hBn := (hB1.putD a1 c1 am).putT 0 (.int .i64 r.1) rfl
  rw [← hW2] at hBn
  have hcg : Chg (boxG w F) w1 W2 := by
    rw [hW2]
    exact (((Chg.refl _ w1).setCell _ _ (fun _ => .inr ⟨by simp, by simp⟩)).setCell _ _ (fun _ => .inr ⟨by simp, by simp⟩)).setCell _ _ (fun _ => .inr ⟨by simp <;> omega, by simp <;> omega⟩)
  have hDn := hD1.chg hcg
  have hbn : Below w.heap.size w W2 := by
    rw [hW2]
    exact ((hbw1.setCell (Nat.le_refl _) _).setCell (Nat.le_refl _) _).setCell (by simp <;> omega) _
  have hTn : TV W2 (w.heap.size + 5) _ (ans0 r.1) := tv0 W2 (w.heap.size + 5) r.1 0 0 0
  rw [← hW2]
  clear hW2 hB1 hbw1 hcg hD1 d0 d1 dz t0 t1 t2 t3 t4 t5 tz
  obtain ⟨r0, r1, r2, r3, r4, r5, rz⟩ := hBn.r.cells
  obtain ⟨q0, q1, qz⟩ := hBn.q.cells
  obtain ⟨d0, d1, dz⟩ := hBn.d.cells
  obtain ⟨t0, t1, t2, t3, t4, t5, tz⟩ := hBn.t.cells
  have hend := want_fin (c := c1) (am := am) hTn hDn hbn
  rw [← HC.out] at hend
  clear hBn hTn hDn hbn HC
  go_region
  go_wp2_with fail
  refine bodyPost_ret (v := .tuple #[.agg #[.int .i64 r.1, .int .i64 0, .int .i64 0, .int .i64 0, (.slice none 0 0), (.slice none 0 0)], valD a1 n c1 am]) ?_ rfl hend
  simp [results, Try.results24, go_sem, r0, r1, r2, r3, r4, r5, q0, q1]
set_option maxRecDepth 100000 in
set_option maxHeartbeats 1600000 in
theorem want_cut (h : Dd w F a n s) (hF : ∀ b, F b → b < w.heap.size) (x : Cal) (hk : x.k = 2) (hx : CalOk w x) (M : Nat) (hB : Bnd M n s) (hM : M + 1 + x.p.p.length ≤ 70368744177664) :
    Calls Try.prog 24 #[valD a n c am, valC x] w fun e w' => WantTo w F n (calS am n s x) e w' := by
  obtain ⟨W5, hW5⟩ : ∃ W, W = wantW w a n c am x := ⟨_, rfl⟩
  have hB5 := wantW_box w a n c am x
  have hb5 := wantW_below w a n c am x
  have hs5 := wantW_size w a n c am x
  rw [← hW5] at hB5 hb5 hs5
  have hd5 := h.boxG.below hb5
  have hG : ∀ b, boxG w F b → b < W5.heap.size := fun b hb => by have := boxG_lt hF hb; omega
  have hx5 := hx.below hb5
  have hct : ∀ i, i < n → (s i).c + 1 ≤ 4611686018427387904 := fun i hi => by have := hB.cnt i hi; omega
  obtain ⟨r, hr⟩ : ∃ r, r = opR am n s 2 x.i x.a x.p.p := ⟨_, rfl⟩
  have HC : Hid (calS am n s x = (ans0 r.1, am, r.2)) := by
    unfold Hid
    rw [calS_opR (by rw [hk]; decide), hk, hr]; rfl
  have hq := cutR (c := c) (am := am) hd5 hG x.i x.a x.p.p hct
  rw [← hr] at hq
  clear hr
  obtain ⟨xk, xi, xa, xb, ⟨pa, pc, ps⟩, fa, fn, fc, ff⟩ := x
  simp only at hk
  subst hk
  replace hB := hB
  replace hM := hM
  replace hx5 := hx5
  clear h hx hB hM hF hx5
  replace hs5 := hide_it hs5
  replace hd5 := hide_it hd5
  replace hG := hide_it hG
  go_enter Try.func24, Try.ntmps24
  go_wp2_with fail
  change Calls _ _ _ (wantW w a n c am ⟨_, xi, xa, xb, ⟨pa, pc, ps⟩, fa, fn, fc, ff⟩) _
  rw [← hW5]
  refine hq.mono ?_
  rintro e w1 ⟨v, rfl, ⟨a1, c1, rfl, hD1⟩, hb1⟩
  have hB1 := hB5.below (hb1.mono (by rw [hs5.out]; exact Nat.le_refl _))
  have hbw1 := hb5.trans (hb1.mono hb5.size)
  clear hq hW5
  obtain ⟨d0, d1, dz⟩ := hB1.d.cells
  obtain ⟨t0, t1, t2, t3, t4, t5, tz⟩ := hB1.t.cells
  go_wp2_with fail
  obtain ⟨W2, hW2⟩ : ∃ W, W = ((w1.setCell ⟨w.heap.size, 0, none⟩ (.slice a1 n c1)).setCell ⟨w.heap.size, 1, none⟩ (.bool am)).setCell ⟨w.heap.size + 1 + 1 + 1 + 1, 0, none⟩ (.int .i64 r.1) := ⟨_, rfl⟩
  have hBn := (hB1.putD a1 c1 am).putT 0 (.int .i64 r.1) rfl
  rw [← hW2] at hBn
  have hcg : Chg (boxG w F) w1 W2 := by
    rw [hW2]
    exact (((Chg.refl _ w1).setCell _ _ (fun _ => .inr ⟨by simp, by simp⟩)).setCell _ _ (fun _ => .inr ⟨by simp, by simp⟩)).setCell _ _ (fun _ => .inr ⟨by simp <;> omega, by simp <;> omega⟩)
  have hDn := hD1.chg hcg
  have hbn : Below w.heap.size w W2 := by
    rw [hW2]
    exact ((hbw1.setCell (Nat.le_refl _) _).setCell (Nat.le_refl _) _).setCell (by simp <;> omega) _
  have hTn : TV W2 (w.heap.size + 5) _ (ans0 r.1) := tv0 W2 (w.heap.size + 5) r.1 0 0 0
  rw [← hW2]
  clear hW2 hB1 hbw1 hcg hD1 d0 d1 dz t0 t1 t2 t3 t4 t5 tz
  obtain ⟨r0, r1, r2, r3, r4, r5, rz⟩ := hBn.r.cells
  obtain ⟨q0, q1, qz⟩ := hBn.q.cells
  obtain ⟨d0, d1, dz⟩ := hBn.d.cells
  obtain ⟨t0, t1, t2, t3, t4, t5, tz⟩ := hBn.t.cells
  have hend := want_fin (c := c1) (am := am) hTn hDn hbn
  rw [← HC.out] at hend
  clear hBn hTn hDn hbn HC
  go_region
  go_wp2_with fail
  refine bodyPost_ret (v := .tuple #[.agg #[.int .i64 r.1, .int .i64 0, .int .i64 0, .int .i64 0, (.slice none 0 0), (.slice none 0 0)], valD a1 n c1 am]) ?_ rfl hend
  simp [results, Try.results24, go_sem, r0, r1, r2, r3, r4, r5, q0, q1]
set_option maxRecDepth 100000 in
set_option maxHeartbeats 1600000 in
theorem want_trim (h : Dd w F a n s) (hF : ∀ b, F b → b < w.heap.size) (x : Cal) (hk : x.k = 3) (hx : CalOk w x) (M : Nat) (hB : Bnd M n s) (hM : M + 1 + x.p.p.length ≤ 70368744177664) :
    Calls Try.prog 24 #[valD a n c am, valC x] w fun e w' => WantTo w F n (calS am n s x) e w' := by
  obtain ⟨W5, hW5⟩ : ∃ W, W = wantW w a n c am x := ⟨_, rfl⟩
  have hB5 := wantW_box w a n c am x
  have hb5 := wantW_below w a n c am x
  have hs5 := wantW_size w a n c am x
  rw [← hW5] at hB5 hb5 hs5
  have hd5 := h.boxG.below hb5
  have hG : ∀ b, boxG w F b → b < W5.heap.size := fun b hb => by have := boxG_lt hF hb; omega
  have hx5 := hx.below hb5
  have hct : ∀ i, i < n → (s i).c + 1 ≤ 4611686018427387904 := fun i hi => by have := hB.cnt i hi; omega
  obtain ⟨r, hr⟩ : ∃ r, r = opR am n s 3 x.i x.a x.p.p := ⟨_, rfl⟩
  have HC : Hid (calS am n s x = (ans0 r.1, am, r.2)) := by
    unfold Hid
    rw [calS_opR (by rw [hk]; decide), hk, hr]; rfl
  have hq := trimR (c := c) (am := am) hd5 hG x.i x.a x.p.p hct
  rw [← hr] at hq
  clear hr
  obtain ⟨xk, xi, xa, xb, ⟨pa, pc, ps⟩, fa, fn, fc, ff⟩ := x
  simp only at hk
  subst hk
  replace hB := hB
  replace hM := hM
  replace hx5 := hx5
  clear h hx hB hM hF hx5
  replace hs5 := hide_it hs5
  replace hd5 := hide_it hd5
  replace hG := hide_it hG
  go_enter Try.func24, Try.ntmps24
  go_wp2_with fail
  change Calls _ _ _ (wantW w a n c am ⟨_, xi, xa, xb, ⟨pa, pc, ps⟩, fa, fn, fc, ff⟩) _
  rw [← hW5]
  refine hq.mono ?_
  rintro e w1 ⟨v, rfl, ⟨a1, c1, rfl, hD1⟩, hb1⟩
  have hB1 := hB5.below (hb1.mono (by rw [hs5.out]; exact Nat.le_refl _))
  have hbw1 := hb5.trans (hb1.mono hb5.size)
  clear hq hW5
  obtain ⟨d0, d1, dz⟩ := hB1.d.cells
  obtain ⟨t0, t1, t2, t3, t4, t5, tz⟩ := hB1.t.cells
  go_wp2_with fail
  obtain ⟨W2, hW2⟩ : ∃ W, W = ((w1.setCell ⟨w.heap.size, 0, none⟩ (.slice a1 n c1)).setCell ⟨w.heap.size, 1, none⟩ (.bool am)).setCell ⟨w.heap.size + 1 + 1 + 1 + 1, 0, none⟩ (.int .i64 r.1) := ⟨_, rfl⟩
  have hBn := (hB1.putD a1 c1 am).putT 0 (.int .i64 r.1) rfl
  rw [← hW2] at hBn
  have hcg : Chg (boxG w F) w1 W2 := by
    rw [hW2]
    exact (((Chg.refl _ w1).setCell _ _ (fun _ => .inr ⟨by simp, by simp⟩)).setCell _ _ (fun _ => .inr ⟨by simp, by simp⟩)).setCell _ _ (fun _ => .inr ⟨by simp <;> omega, by simp <;> omega⟩)
  have hDn := hD1.chg hcg
  have hbn : Below w.heap.size w W2 := by
    rw [hW2]
    exact ((hbw1.setCell (Nat.le_refl _) _).setCell (Nat.le_refl _) _).setCell (by simp <;> omega) _
  have hTn : TV W2 (w.heap.size + 5) _ (ans0 r.1) := tv0 W2 (w.heap.size + 5) r.1 0 0 0
  rw [← hW2]
  clear hW2 hB1 hbw1 hcg hD1 d0 d1 dz t0 t1 t2 t3 t4 t5 tz
  obtain ⟨r0, r1, r2, r3, r4, r5, rz⟩ := hBn.r.cells
  obtain ⟨q0, q1, qz⟩ := hBn.q.cells
  obtain ⟨d0, d1, dz⟩ := hBn.d.cells
  obtain ⟨t0, t1, t2, t3, t4, t5, tz⟩ := hBn.t.cells
  have hend := want_fin (c := c1) (am := am) hTn hDn hbn
  rw [← HC.out] at hend
  clear hBn hTn hDn hbn HC
  go_region
  go_wp2_with fail
  refine bodyPost_ret (v := .tuple #[.agg #[.int .i64 r.1, .int .i64 0, .int .i64 0, .int .i64 0, (.slice none 0 0), (.slice none 0 0)], valD a1 n c1 am]) ?_ rfl hend
  simp [results, Try.results24, go_sem, r0, r1, r2, r3, r4, r5, q0, q1]
set_option maxRecDepth 100000 in
set_option maxHeartbeats 1600000 in
theorem want_read (h : Dd w F a n s) (hF : ∀ b, F b → b < w.heap.size) (x : Cal) (hk : x.k = 4) (hx : CalOk w x) (M : Nat) (hB : Bnd M n s) (hM : M + 1 + x.p.p.length ≤ 70368744177664) :
    Calls Try.prog 24 #[valD a n c am, valC x] w fun e w' => WantTo w F n (calS am n s x) e w' := by
  obtain ⟨W5, hW5⟩ : ∃ W, W = wantW w a n c am x := ⟨_, rfl⟩
  have hB5 := wantW_box w a n c am x
  have hb5 := wantW_below w a n c am x
  have hs5 := wantW_size w a n c am x
  rw [← hW5] at hB5 hb5 hs5
  have hd5 := h.boxG.below hb5
  have hG : ∀ b, boxG w F b → b < W5.heap.size := fun b hb => by have := boxG_lt hF hb; omega
  have hx5 := hx.below hb5
  obtain ⟨E, hE⟩ : ∃ e, e = (readA n s x.i x.a x.b).E := ⟨_, rfl⟩
  obtain ⟨zs, hzs⟩ : ∃ z, z = (readA n s x.i x.a x.b).P := ⟨_, rfl⟩
  have hzl : Hid (zs.length ≤ 211106232532800) := by
    unfold Hid
    rw [hzs]
    unfold readA
    split
    · next hi =>
      split
      · have := (h.ok _ (inD_iff hi).2).len
        simp only [List.length_drop, List.length_take]; omega
      · simp [ans0]
    · simp [ans0]
  have HC : Hid (calS am n s x = (⟨E, 0, 0, 0, zs, 0, fun _ => (0, [])⟩, am, s)) := by
    unfold Hid calS
    rw [hk, if_neg (by decide), if_pos rfl, hE, hzs]
    congr 1
    unfold readA
    split
    · split <;> rfl
    · rfl
  have hq := readR (c := c) (am := am) hd5 x.i x.a x.b hx5.a.2
  rw [← hE, ← hzs] at hq
  clear hE hzs
  obtain ⟨xk, xi, xa, xb, ⟨pa, pc, ps⟩, fa, fn, fc, ff⟩ := x
  simp only at hk
  subst hk
  replace hB := hB
  replace hM := hM
  replace hx5 := hx5
  clear h hx hB hM hF hx5
  replace hs5 := hide_it hs5
  replace hd5 := hide_it hd5
  replace hG := hide_it hG
  go_enter Try.func24, Try.ntmps24
  go_wp2_with fail
  change Calls _ _ _ (wantW w a n c am ⟨_, xi, xa, xb, ⟨pa, pc, ps⟩, fa, fn, fc, ff⟩) _
  rw [← hW5]
  refine hq.mono ?_
  rintro e w1 ⟨⟨v, rfl, hown⟩, hb1⟩
  obtain ⟨ra, rc, hv, hrow, _⟩ := hown.row
  subst hv
  have hB1 := hB5.below (hb1.mono (by rw [hs5.out]; exact Nat.le_refl _))
  have hbw1 := hb5.trans (hb1.mono hb5.size)
  clear hq hW5
  obtain ⟨d0, d1, dz⟩ := hB1.d.cells
  obtain ⟨t0, t1, t2, t3, t4, t5, tz⟩ := hB1.t.cells
  go_wp2_with fail
  have hlow : ∀ ad, ra = some ad → w.heap.size + 5 ≤ ad.block := fun ad e => by
    subst e
    have := (OwnS.inside hown ad.block rfl).1
    have := hs5.out
    omega
  obtain ⟨W2, hW2⟩ : ∃ W, W = ((w1.setCell ⟨w.heap.size + 1 + 1 + 1 + 1, 4, none⟩ (.slice ra zs.length rc)).setCell ⟨w.heap.size + 1 + 1 + 1 + 1, 0, none⟩ (.int .i64 E)) := ⟨_, rfl⟩
  have hBn := ((hB1.putT 4 (.slice ra zs.length rc) rfl).putT 0 (.int .i64 E) rfl)
  rw [← hW2] at hBn
  have hcg : Chg (boxG w F) w1 W2 := by
    rw [hW2]
    exact (((Chg.refl _ w1).setCell _ _ (fun _ => .inr ⟨by simp <;> omega, by simp <;> omega⟩)).setCell _ _ (fun _ => .inr ⟨by simp <;> omega, by simp <;> omega⟩))
  have hDn := (hd5.out.below hb1).chg hcg
  have hbn : Below w.heap.size w W2 := by
    rw [hW2]
    exact ((hbw1.setCell (by simp <;> omega) _).setCell (by simp <;> omega) _)
  have hTn : TV W2 (w.heap.size + 5) (.agg #[.int .i64 E, .int .i64 0, .int .i64 0, .int .i64 0, (.slice ra zs.length rc), (.slice none 0 0)]) ⟨E, 0, 0, 0, zs, 0, fun _ => (0, [])⟩ := ⟨⟨ra, rc, none, 0, rfl, hrow.keep hcg.size (fun ad e hl => by
    rw [hW2, Below.heap_setCell _ _ _ _ (by have := hlow ad e; simp; omega), Below.heap_setCell _ _ _ _ (by have := hlow ad e; simp; omega)]), hlow, .inl rfl, Nat.le_refl _⟩, hzl.out, by simp, fun i hi => by simp at hi⟩
  rw [← hW2]
  clear hW2 hB1 hbw1 hcg d0 d1 dz t0 t1 t2 t3 t4 t5 tz
  obtain ⟨r0, r1, r2, r3, r4, r5, rz⟩ := hBn.r.cells
  obtain ⟨q0, q1, qz⟩ := hBn.q.cells
  obtain ⟨d0, d1, dz⟩ := hBn.d.cells
  obtain ⟨t0, t1, t2, t3, t4, t5, tz⟩ := hBn.t.cells
  have hend := want_fin (c := c) (am := am) hTn hDn hbn
  rw [← HC.out] at hend
  clear hBn hTn hDn hbn HC
  go_region
  go_wp2_with fail
  refine bodyPost_ret (v := .tuple #[.agg #[.int .i64 E, .int .i64 0, .int .i64 0, .int .i64 0, (.slice ra zs.length rc), (.slice none 0 0)], valD a n c am]) ?_ rfl hend
  simp [results, Try.results24, go_sem, r0, r1, r2, r3, r4, r5, q0, q1]
set_option maxRecDepth 100000 in
set_option maxHeartbeats 1600000 in
theorem want_bounds (h : Dd w F a n s) (hF : ∀ b, F b → b < w.heap.size) (x : Cal) (hk : x.k = 5) (hx : CalOk w x) (M : Nat) (hB : Bnd M n s) (hM : M + 1 + x.p.p.length ≤ 70368744177664) :
    Calls Try.prog 24 #[valD a n c am, valC x] w fun e w' => WantTo w F n (calS am n s x) e w' := by
  obtain ⟨W5, hW5⟩ : ∃ W, W = wantW w a n c am x := ⟨_, rfl⟩
  have hB5 := wantW_box w a n c am x
  have hb5 := wantW_below w a n c am x
  have hs5 := wantW_size w a n c am x
  rw [← hW5] at hB5 hb5 hs5
  have hd5 := h.boxG.below hb5
  have hG : ∀ b, boxG w F b → b < W5.heap.size := fun b hb => by have := boxG_lt hF hb; omega
  have hx5 := hx.below hb5
  obtain ⟨A, hA⟩ : ∃ A, A = boundsA n s x.i := ⟨_, rfl⟩
  have hA2 : A = ⟨A.E, A.X, A.Y, A.Z, [], 0, fun _ => (0, [])⟩ := by
    rw [hA]
    unfold boundsA
    split <;> rfl
  have HC : Hid (calS am n s x = (⟨A.E, A.X, A.Y, A.Z, [], 0, fun _ => (0, [])⟩, am, s)) := by
    unfold Hid calS
    rw [hk, if_neg (by decide), if_neg (by decide), if_pos rfl, ← hA, ← hA2]
  have hq := boundsR (c := c) (am := am) hd5 x.i
  rw [← hA] at hq
  clear hA hA2
  obtain ⟨xk, xi, xa, xb, ⟨pa, pc, ps⟩, fa, fn, fc, ff⟩ := x
  simp only at hk
  subst hk
  replace hB := hB
  replace hM := hM
  replace hx5 := hx5
  clear h hx hB hM hF hx5
  replace hs5 := hide_it hs5
  replace hd5 := hide_it hd5
  replace hG := hide_it hG
  go_enter Try.func24, Try.ntmps24
  go_wp2_with fail
  change Calls _ _ _ (wantW w a n c am ⟨_, xi, xa, xb, ⟨pa, pc, ps⟩, fa, fn, fc, ff⟩) _
  rw [← hW5]
  refine hq.mono ?_
  rintro e w1 ⟨rfl, hb1⟩
  have hB1 := hB5.below (hb1.mono (by rw [hs5.out]; exact Nat.le_refl _))
  have hbw1 := hb5.trans (hb1.mono hb5.size)
  clear hq hW5
  obtain ⟨d0, d1, dz⟩ := hB1.d.cells
  obtain ⟨t0, t1, t2, t3, t4, t5, tz⟩ := hB1.t.cells
  go_wp2_with fail
  skip
  obtain ⟨W2, hW2⟩ : ∃ W, W = ((((w1.setCell ⟨w.heap.size + 1 + 1 + 1 + 1, 1, none⟩ (.int .i64 A.X)).setCell ⟨w.heap.size + 1 + 1 + 1 + 1, 2, none⟩ (.int .i64 A.Y)).setCell ⟨w.heap.size + 1 + 1 + 1 + 1, 3, none⟩ (.int .i64 A.Z)).setCell ⟨w.heap.size + 1 + 1 + 1 + 1, 0, none⟩ (.int .i64 A.E)) := ⟨_, rfl⟩
  have hBn := ((((hB1.putT 1 (.int .i64 A.X) rfl).putT 2 (.int .i64 A.Y) rfl).putT 3 (.int .i64 A.Z) rfl).putT 0 (.int .i64 A.E) rfl)
  rw [← hW2] at hBn
  have hcg : Chg (boxG w F) w1 W2 := by
    rw [hW2]
    exact (((((Chg.refl _ w1).setCell _ _ (fun _ => .inr ⟨by simp <;> omega, by simp <;> omega⟩)).setCell _ _ (fun _ => .inr ⟨by simp <;> omega, by simp <;> omega⟩)).setCell _ _ (fun _ => .inr ⟨by simp <;> omega, by simp <;> omega⟩)).setCell _ _ (fun _ => .inr ⟨by simp <;> omega, by simp <;> omega⟩))
  have hDn := (hd5.out.below hb1).chg hcg
  have hbn : Below w.heap.size w W2 := by
    rw [hW2]
    exact ((((hbw1.setCell (by simp <;> omega) _).setCell (by simp <;> omega) _).setCell (by simp <;> omega) _).setCell (by simp <;> omega) _)
  have hTn : TV W2 (w.heap.size + 5) (.agg #[.int .i64 A.E, .int .i64 A.X, .int .i64 A.Y, .int .i64 A.Z, (.slice none 0 0), (.slice none 0 0)]) ⟨A.E, A.X, A.Y, A.Z, [], 0, fun _ => (0, [])⟩ := tv0 W2 (w.heap.size + 5) A.E A.X A.Y A.Z
  rw [← hW2]
  clear hW2 hB1 hbw1 hcg d0 d1 dz t0 t1 t2 t3 t4 t5 tz
  obtain ⟨r0, r1, r2, r3, r4, r5, rz⟩ := hBn.r.cells
  obtain ⟨q0, q1, qz⟩ := hBn.q.cells
  obtain ⟨d0, d1, dz⟩ := hBn.d.cells
  obtain ⟨t0, t1, t2, t3, t4, t5, tz⟩ := hBn.t.cells
  have hend := want_fin (c := c) (am := am) hTn hDn hbn
  rw [← HC.out] at hend
  clear hBn hTn hDn hbn HC
  go_region
  go_wp2_with fail
  refine bodyPost_ret (v := .tuple #[.agg #[.int .i64 A.E, .int .i64 A.X, .int .i64 A.Y, .int .i64 A.Z, (.slice none 0 0), (.slice none 0 0)], valD a n c am]) ?_ rfl hend
  simp [results, Try.results24, go_sem, r0, r1, r2, r3, r4, r5, q0, q1]
set_option maxRecDepth 100000 in
set_option maxHeartbeats 1600000 in
theorem want_done (h : Dd w F a n s) (hF : ∀ b, F b → b < w.heap.size) (x : Cal) (hk : x.k = 6) (hx : CalOk w x) (M : Nat) (hB : Bnd M n s) (hM : M + 1 + x.p.p.length ≤ 70368744177664) :
    Calls Try.prog 24 #[valD a n c am, valC x] w fun e w' => WantTo w F n (calS am n s x) e w' := by
  obtain ⟨W5, hW5⟩ : ∃ W, W = wantW w a n c am x := ⟨_, rfl⟩
  have hB5 := wantW_box w a n c am x
  have hb5 := wantW_below w a n c am x
  have hs5 := wantW_size w a n c am x
  rw [← hW5] at hB5 hb5 hs5
  have hd5 := h.boxG.below hb5
  have hG : ∀ b, boxG w F b → b < W5.heap.size := fun b hb => by have := boxG_lt hF hb; omega
  have hx5 := hx.below hb5
  obtain ⟨D, hD⟩ : ∃ d, d = doneA n s x.i := ⟨_, rfl⟩
  have HC : Hid (calS am n s x = (⟨0, D, 0, 0, [], 0, fun _ => (0, [])⟩, am, s)) := by
    unfold Hid calS
    rw [hk, if_neg (by decide), if_neg (by decide), if_neg (by decide), if_pos rfl, ← hD]; rfl
  have hq := doneR (c := c) (am := am) hd5 x.i
  rw [← hD] at hq
  clear hD
  obtain ⟨xk, xi, xa, xb, ⟨pa, pc, ps⟩, fa, fn, fc, ff⟩ := x
  simp only at hk
  subst hk
  replace hB := hB
  replace hM := hM
  replace hx5 := hx5
  clear h hx hB hM hF hx5
  replace hs5 := hide_it hs5
  replace hd5 := hide_it hd5
  replace hG := hide_it hG
  go_enter Try.func24, Try.ntmps24
  go_wp2_with fail
  change Calls _ _ _ (wantW w a n c am ⟨_, xi, xa, xb, ⟨pa, pc, ps⟩, fa, fn, fc, ff⟩) _
  rw [← hW5]
  refine hq.mono ?_
  rintro e w1 ⟨rfl, hb1⟩
  have hB1 := hB5.below (hb1.mono (by rw [hs5.out]; exact Nat.le_refl _))
  have hbw1 := hb5.trans (hb1.mono hb5.size)
  clear hq hW5
  obtain ⟨d0, d1, dz⟩ := hB1.d.cells
  obtain ⟨t0, t1, t2, t3, t4, t5, tz⟩ := hB1.t.cells
  go_wp2_with fail
  skip
  obtain ⟨W2, hW2⟩ : ∃ W, W = (w1.setCell ⟨w.heap.size + 1 + 1 + 1 + 1, 1, none⟩ (.int .i64 D)) := ⟨_, rfl⟩
  have hBn := (hB1.putT 1 (.int .i64 D) rfl)
  rw [← hW2] at hBn
  have hcg : Chg (boxG w F) w1 W2 := by
    rw [hW2]
    exact ((Chg.refl _ w1).setCell _ _ (fun _ => .inr ⟨by simp <;> omega, by simp <;> omega⟩))
  have hDn := (hd5.out.below hb1).chg hcg
  have hbn : Below w.heap.size w W2 := by
    rw [hW2]
    exact (hbw1.setCell (by simp <;> omega) _)
  have hTn : TV W2 (w.heap.size + 5) (.agg #[.int .i64 0, .int .i64 D, .int .i64 0, .int .i64 0, (.slice none 0 0), (.slice none 0 0)]) ⟨0, D, 0, 0, [], 0, fun _ => (0, [])⟩ := tv0 W2 (w.heap.size + 5) 0 D 0 0
  rw [← hW2]
  clear hW2 hB1 hbw1 hcg d0 d1 dz t0 t1 t2 t3 t4 t5 tz
  obtain ⟨r0, r1, r2, r3, r4, r5, rz⟩ := hBn.r.cells
  obtain ⟨q0, q1, qz⟩ := hBn.q.cells
  obtain ⟨d0, d1, dz⟩ := hBn.d.cells
  obtain ⟨t0, t1, t2, t3, t4, t5, tz⟩ := hBn.t.cells
  have hend := want_fin (c := c) (am := am) hTn hDn hbn
  rw [← HC.out] at hend
  clear hBn hTn hDn hbn HC
  go_region
  go_wp2_with fail
  refine bodyPost_ret (v := .tuple #[.agg #[.int .i64 0, .int .i64 D, .int .i64 0, .int .i64 0, (.slice none 0 0), (.slice none 0 0)], valD a n c am]) ?_ rfl hend
  simp [results, Try.results24, go_sem, r0, r1, r2, r3, r4, r5, q0, q1]
set_option maxRecDepth 100000 in
set_option maxHeartbeats 1600000 in
theorem want_image (h : Dd w F a n s) (hF : ∀ b, F b → b < w.heap.size) (x : Cal) (hk : x.k = 9) (hx : CalOk w x) (M : Nat) (hB : Bnd M n s) (hM : M + 1 + x.p.p.length ≤ 70368744177664) :
    Calls Try.prog 24 #[valD a n c am, valC x] w fun e w' => WantTo w F n (calS am n s x) e w' := by
  obtain ⟨W5, hW5⟩ : ∃ W, W = wantW w a n c am x := ⟨_, rfl⟩
  have hB5 := wantW_box w a n c am x
  have hb5 := wantW_below w a n c am x
  have hs5 := wantW_size w a n c am x
  rw [← hW5] at hB5 hb5 hs5
  have hd5 := h.boxG.below hb5
  have hG : ∀ b, boxG w F b → b < W5.heap.size := fun b hb => by have := boxG_lt hF hb; omega
  have hx5 := hx.below hb5
  have hsl : Hid (∀ i, i < n → (safeT s i).2.length ≤ 211106232532800) := fun i hi => by
    have := (h.ok i hi).len
    unfold safeT
    simp only [List.length_take]; omega
  have hn16 : Hid (n ≤ 16) := h.few.2
  have HC : Hid (calS am n s x = (⟨0, 0, 0, 0, [], n, safeT s⟩, am, s)) := by
    unfold Hid calS
    rw [hk, if_neg (by decide), if_neg (by decide), if_neg (by decide), if_neg (by decide), if_neg (by decide), if_neg (by decide), if_pos rfl]; rfl
  have hq := imageR (c := c) (am := am) hd5
  obtain ⟨xk, xi, xa, xb, ⟨pa, pc, ps⟩, fa, fn, fc, ff⟩ := x
  simp only at hk
  subst hk
  replace hB := hB
  replace hM := hM
  replace hx5 := hx5
  clear h hx hB hM hF hx5
  replace hs5 := hide_it hs5
  replace hd5 := hide_it hd5
  replace hG := hide_it hG
  go_enter Try.func24, Try.ntmps24
  go_wp2_with fail
  change Calls _ _ _ (wantW w a n c am ⟨_, xi, xa, xb, ⟨pa, pc, ps⟩, fa, fn, fc, ff⟩) _
  rw [← hW5]
  refine hq.mono ?_
  rintro e w1 ⟨⟨ra, rc, rfl, hrow, hrc⟩, hb1⟩
  have hB1 := hB5.below (hb1.mono (by rw [hs5.out]; exact Nat.le_refl _))
  have hbw1 := hb5.trans (hb1.mono hb5.size)
  clear hq hW5
  obtain ⟨d0, d1, dz⟩ := hB1.d.cells
  obtain ⟨t0, t1, t2, t3, t4, t5, tz⟩ := hB1.t.cells
  go_wp2_with fail
  rw [hs5.out] at hrow
  obtain ⟨W2, hW2⟩ : ∃ W, W = (w1.setCell ⟨w.heap.size + 1 + 1 + 1 + 1, 5, none⟩ (.slice ra n rc)) := ⟨_, rfl⟩
  have hBn := (hB1.putT 5 (.slice ra n rc) rfl)
  rw [← hW2] at hBn
  have hcg : Chg (boxG w F) w1 W2 := by
    rw [hW2]
    exact ((Chg.refl _ w1).setCell _ _ (fun _ => .inr ⟨by simp <;> omega, by simp <;> omega⟩))
  have hDn := (hd5.out.below hb1).chg hcg
  have hbn : Below w.heap.size w W2 := by
    rw [hW2]
    exact (hbw1.setCell (by simp <;> omega) _)
  have hTn : TV W2 (w.heap.size + 5) (.agg #[.int .i64 0, .int .i64 0, .int .i64 0, .int .i64 0, (.slice none 0 0), (.slice ra n rc)]) ⟨0, 0, 0, 0, [], n, safeT s⟩ := ⟨⟨none, 0, ra, rc, rfl, .inl rfl, (fun _ e => by cases e), hrow.keep hcg.size (fun b hb hl => by
    rw [hW2, Below.heap_setCell _ _ _ _ (by simp; omega)]), hrc⟩, by simp, hn16.out, hsl.out⟩
  rw [← hW2]
  clear hW2 hB1 hbw1 hcg d0 d1 dz t0 t1 t2 t3 t4 t5 tz
  obtain ⟨r0, r1, r2, r3, r4, r5, rz⟩ := hBn.r.cells
  obtain ⟨q0, q1, qz⟩ := hBn.q.cells
  obtain ⟨d0, d1, dz⟩ := hBn.d.cells
  obtain ⟨t0, t1, t2, t3, t4, t5, tz⟩ := hBn.t.cells
  have hend := want_fin (c := c) (am := am) hTn hDn hbn
  rw [← HC.out] at hend
  clear hBn hTn hDn hbn HC
  go_region
  go_wp2_with fail
  refine bodyPost_ret (v := .tuple #[.agg #[.int .i64 0, .int .i64 0, .int .i64 0, .int .i64 0, (.slice none 0 0), (.slice ra n rc)], valD a n c am]) ?_ rfl hend
  simp [results, Try.results24, go_sem, r0, r1, r2, r3, r4, r5, q0, q1]
set_option maxRecDepth 100000 in
set_option maxHeartbeats 1600000 in
theorem want_arm (h : Dd w F a n s) (hF : ∀ b, F b → b < w.heap.size) (x : Cal) (hk : x.k = 7) (hx : CalOk w x) (M : Nat) (hB : Bnd M n s) (hM : M + 1 + x.p.p.length ≤ 70368744177664) :
    Calls Try.prog 24 #[valD a n c am, valC x] w fun e w' => WantTo w F n (calS am n s x) e w' := by
  obtain ⟨W5, hW5⟩ : ∃ W, W = wantW w a n c am x := ⟨_, rfl⟩
  have hB5 := wantW_box w a n c am x
  have hb5 := wantW_below w a n c am x
  have hs5 := wantW_size w a n c am x
  rw [← hW5] at hB5 hb5 hs5
  have hd5 := h.boxG.below hb5
  have hG : ∀ b, boxG w F b → b < W5.heap.size := fun b hb => by have := boxG_lt hF hb; omega
  have hx5 := hx.below hb5
  have HC : Hid (calS am n s x = (ans0 0, true, armTo s x.fn x.f n)) := by
    unfold Hid calS
    rw [hk, if_neg (by decide), if_neg (by decide), if_neg (by decide), if_neg (by decide), if_pos rfl]
  obtain ⟨S', hS'⟩ : ∃ S', S' = armTo s x.fn x.f n := ⟨_, rfl⟩
  rw [← hS'] at HC
  have hq := armR (c := c) (am := am) hd5 hG x.fa x.fn x.fc x.f hx5.f.row (fun i hi => (hx.f.each i hi).t)
  rw [← hS'] at hq
  clear hS'
  obtain ⟨xk, xi, xa, xb, ⟨pa, pc, ps⟩, fa, fn, fc, ff⟩ := x
  simp only at hk
  subst hk
  replace hB := hB
  replace hM := hM
  replace hx5 := hx5
  clear h hx hB hM hF hx5
  replace hs5 := hide_it hs5
  replace hd5 := hide_it hd5
  replace hG := hide_it hG
  go_enter Try.func24, Try.ntmps24
  go_wp2_with fail
  change Calls _ _ _ (wantW w a n c am ⟨_, xi, xa, xb, ⟨pa, pc, ps⟩, fa, fn, fc, ff⟩) _
  rw [← hW5]
  refine hq.mono ?_
  rintro e w1 ⟨v, rfl, ⟨a1, c1, rfl, hD1⟩, hb1⟩
  have hB1 := hB5.below (hb1.mono (by rw [hs5.out]; exact Nat.le_refl _))
  have hbw1 := hb5.trans (hb1.mono hb5.size)
  clear hq hW5
  obtain ⟨d0, d1, dz⟩ := hB1.d.cells
  obtain ⟨t0, t1, t2, t3, t4, t5, tz⟩ := hB1.t.cells
  go_wp2_with fail
  obtain ⟨W2, hW2⟩ : ∃ W, W = (w1.setCell ⟨w.heap.size, 0, none⟩ (.slice a1 n c1)).setCell ⟨w.heap.size, 1, none⟩ (.bool true) := ⟨_, rfl⟩
  have hBn := hB1.putD a1 c1 true
  rw [← hW2] at hBn
  have hcg : Chg (boxG w F) w1 W2 := by
    rw [hW2]
    exact ((Chg.refl _ w1).setCell _ _ (fun _ => .inr ⟨by simp, by simp⟩)).setCell _ _ (fun _ => .inr ⟨by simp, by simp⟩)
  have hDn := hD1.chg hcg
  have hbn : Below w.heap.size w W2 := by
    rw [hW2]
    exact (hbw1.setCell (Nat.le_refl _) _).setCell (Nat.le_refl _) _
  have hTn : TV W2 (w.heap.size + 5) _ (ans0 0) := tv0 W2 (w.heap.size + 5) 0 0 0 0
  rw [← hW2]
  clear hW2 hB1 hbw1 hcg hD1 d0 d1 dz t0 t1 t2 t3 t4 t5 tz
  obtain ⟨r0, r1, r2, r3, r4, r5, rz⟩ := hBn.r.cells
  obtain ⟨q0, q1, qz⟩ := hBn.q.cells
  obtain ⟨d0, d1, dz⟩ := hBn.d.cells
  obtain ⟨t0, t1, t2, t3, t4, t5, tz⟩ := hBn.t.cells
  have hend := want_fin (c := c1) (am := true) hTn hDn hbn
  rw [← HC.out] at hend
  clear hBn hTn hDn hbn HC
  go_region
  go_wp2_with fail
  refine bodyPost_ret (v := .tuple #[.agg #[.int .i64 0, .int .i64 0, .int .i64 0, .int .i64 0, (.slice none 0 0), (.slice none 0 0)], valD a1 n c1 true]) ?_ rfl hend
  simp [results, Try.results24, go_sem, r0, r1, r2, r3, r4, r5, q0, q1]
set_option maxRecDepth 100000 in
set_option maxHeartbeats 1600000 in
theorem want_strike (h : Dd w F a n s) (hF : ∀ b, F b → b < w.heap.size) (x : Cal) (hk : x.k = 8) (hx : CalOk w x) (M : Nat) (hB : Bnd M n s) (hM : M + 1 + x.p.p.length ≤ 70368744177664) (hfk : ∀ i, i < n → (s i).fk ≤ 9223372036854775807) (hz : am = false → ∀ i, i < n → (s i).fk = 0 ∧ (s i).ft = 0) :
    Calls Try.prog 24 #[valD a n c am, valC x] w fun e w' => WantTo w F n (calS am n s x) e w' := by
  obtain ⟨W5, hW5⟩ : ∃ W, W = wantW w a n c am x := ⟨_, rfl⟩
  have hB5 := wantW_box w a n c am x
  have hb5 := wantW_below w a n c am x
  have hs5 := wantW_size w a n c am x
  rw [← hW5] at hB5 hb5 hs5
  have hd5 := h.boxG.below hb5
  have hG : ∀ b, boxG w F b → b < W5.heap.size := fun b hb => by have := boxG_lt hF hb; omega
  have hx5 := hx.below hb5
  have HC : Hid (calS am n s x = (ans0 0, false, strS s n)) := by
    unfold Hid calS
    rw [hk, if_neg (by decide), if_neg (by decide), if_neg (by decide), if_neg (by decide), if_neg (by decide), if_pos rfl]
  obtain ⟨S', hS'⟩ : ∃ S', S' = strS s n := ⟨_, rfl⟩
  rw [← hS'] at HC
  have hq := strikeR (c := c) (am := am) hd5 hG hfk hz
  rw [← hS'] at hq
  clear hS'
  obtain ⟨xk, xi, xa, xb, ⟨pa, pc, ps⟩, fa, fn, fc, ff⟩ := x
  simp only at hk
  subst hk
  replace hB := hB
  replace hM := hM
  replace hx5 := hx5
  clear h hx hB hM hF hx5
  replace hs5 := hide_it hs5
  replace hd5 := hide_it hd5
  replace hG := hide_it hG
  go_enter Try.func24, Try.ntmps24
  go_wp2_with fail
  change Calls _ _ _ (wantW w a n c am ⟨_, xi, xa, xb, ⟨pa, pc, ps⟩, fa, fn, fc, ff⟩) _
  rw [← hW5]
  refine hq.mono ?_
  rintro e w1 ⟨v, rfl, ⟨a1, c1, rfl, hD1⟩, hb1⟩
  have hB1 := hB5.below (hb1.mono (by rw [hs5.out]; exact Nat.le_refl _))
  have hbw1 := hb5.trans (hb1.mono hb5.size)
  clear hq hW5
  obtain ⟨d0, d1, dz⟩ := hB1.d.cells
  obtain ⟨t0, t1, t2, t3, t4, t5, tz⟩ := hB1.t.cells
  go_wp2_with fail
  obtain ⟨W2, hW2⟩ : ∃ W, W = (w1.setCell ⟨w.heap.size, 0, none⟩ (.slice a1 n c1)).setCell ⟨w.heap.size, 1, none⟩ (.bool false) := ⟨_, rfl⟩
  have hBn := hB1.putD a1 c1 false
  rw [← hW2] at hBn
  have hcg : Chg (boxG w F) w1 W2 := by
    rw [hW2]
    exact ((Chg.refl _ w1).setCell _ _ (fun _ => .inr ⟨by simp, by simp⟩)).setCell _ _ (fun _ => .inr ⟨by simp, by simp⟩)
  have hDn := hD1.chg hcg
  have hbn : Below w.heap.size w W2 := by
    rw [hW2]
    exact (hbw1.setCell (Nat.le_refl _) _).setCell (Nat.le_refl _) _
  have hTn : TV W2 (w.heap.size + 5) _ (ans0 0) := tv0 W2 (w.heap.size + 5) 0 0 0 0
  rw [← hW2]
  clear hW2 hB1 hbw1 hcg hD1 d0 d1 dz t0 t1 t2 t3 t4 t5 tz
  obtain ⟨r0, r1, r2, r3, r4, r5, rz⟩ := hBn.r.cells
  obtain ⟨q0, q1, qz⟩ := hBn.q.cells
  obtain ⟨d0, d1, dz⟩ := hBn.d.cells
  obtain ⟨t0, t1, t2, t3, t4, t5, tz⟩ := hBn.t.cells
  have hend := want_fin (c := c1) (am := false) hTn hDn hbn
  rw [← HC.out] at hend
  clear hBn hTn hDn hbn HC
  go_region
  go_wp2_with fail
  refine bodyPost_ret (v := .tuple #[.agg #[.int .i64 0, .int .i64 0, .int .i64 0, .int .i64 0, (.slice none 0 0), (.slice none 0 0)], valD a1 n c1 false]) ?_ rfl hend
  simp [results, Try.results24, go_sem, r0, r1, r2, r3, r4, r5, q0, q1]
end
end Go.Proofs.Ytdodnegdpdhbiaa

namespace Go.Proofs.Ytdodnegdpdhbiaa
open Go.RowKit

section
variable {w : World} {F : Nat → Prop} {a : Option Addr} {n c : Nat} {am : Bool} {s : Nat → Pt}
set_option maxRecDepth 100000 in
set_option maxHeartbeats 1600000 in
theorem want_else (h : Dd w F a n s) (x : Cal) (hx : x.k < 0 ∨ 10 < x.k) :
    Calls Try.prog 24 #[valD a n c am, valC x] w fun e w' => WantTo w F n (calS am n s x) e w' := by
  obtain ⟨W5, hW5⟩ : ∃ W, W = wantW w a n c am x := ⟨_, rfl⟩
  have hBn := wantW_box w a n c am x
  have hbn := wantW_below w a n c am x
  rw [← hW5] at hBn hbn
  have hDn := h.boxG.below hbn
  have hTn : TV W5 (w.heap.size + 5) _ (ans0 0) := tv0 W5 (w.heap.size + 5) 0 0 0 0
  have HC : Hid (calS am n s x = (ans0 0, am, s)) := by
    unfold Hid calS
    rw [if_neg (by omega), if_neg (by omega), if_neg (by omega), if_neg (by omega), if_neg (by omega), if_neg (by omega), if_neg (by omega), if_neg (by omega)]
  obtain ⟨xk, xi, xa, xb, ⟨pa, pc, ps⟩, fa, fn, fc, ff⟩ := x
  simp only at hx
  have k0 : (xk == 0) = false := by rw [beq_eq_false_iff_ne]; omega
  have k1 : (xk == 1) = false := by rw [beq_eq_false_iff_ne]; omega
  have k2 : (xk == 2) = false := by rw [beq_eq_false_iff_ne]; omega
  have k3 : (xk == 3) = false := by rw [beq_eq_false_iff_ne]; omega
  have k4 : (xk == 4) = false := by rw [beq_eq_false_iff_ne]; omega
  have k5 : (xk == 5) = false := by rw [beq_eq_false_iff_ne]; omega
  have k6 : (xk == 6) = false := by rw [beq_eq_false_iff_ne]; omega
  have k7 : (xk == 7) = false := by rw [beq_eq_false_iff_ne]; omega
  have k8 : (xk == 8) = false := by rw [beq_eq_false_iff_ne]; omega
  have k9 : (xk == 9) = false := by rw [beq_eq_false_iff_ne]; omega
  have k10 : (xk == 10) = false := by rw [beq_eq_false_iff_ne]; omega
  clear hx h
  go_enter Try.func24, Try.ntmps24
  go_wp2_with fail
  change Code.wp _ _ _ _ (wantW w a n c am ⟨xk, xi, xa, xb, ⟨pa, pc, ps⟩, fa, fn, fc, ff⟩)
  rw [← hW5]
  obtain ⟨r0, r1, r2, r3, r4, r5, rz⟩ := hBn.r.cells
  obtain ⟨q0, q1, qz⟩ := hBn.q.cells
  obtain ⟨d0, d1, dz⟩ := hBn.d.cells
  obtain ⟨t0, t1, t2, t3, t4, t5, tz⟩ := hBn.t.cells
  have hend := want_fin (c := c) (am := am) hTn hDn hbn
  rw [← HC.out] at hend
  clear hBn hTn hDn hbn HC hW5
  go_region
  go_wp2_with fail
  refine bodyPost_ret (v := .tuple #[.agg #[.int .i64 0, .int .i64 0, .int .i64 0, .int .i64 0, (.slice none 0 0), (.slice none 0 0)], valD a n c am]) ?_ rfl hend
  simp [results, Try.results24, go_sem, r0, r1, r2, r3, r4, r5, q0, q1]

set_option maxRecDepth 100000 in
set_option maxHeartbeats 1600000 in
theorem want_areas (h : Dd w F a n s) (x : Cal) (hx : x.k = 10) :
    Calls Try.prog 24 #[valD a n c am, valC x] w fun e w' => WantTo w F n (calS am n s x) e w' := by
  obtain ⟨W5, hW5⟩ : ∃ W, W = (wantW w a n c am x).setCell ⟨w.heap.size + 1 + 1 + 1 + 1, 1, none⟩ (.int .i64 (n : Int)) := ⟨_, rfl⟩
  have hBn := (wantW_box w a n c am x).putT 1 (.int .i64 (n : Int)) rfl
  have hbn : Below w.heap.size w ((wantW w a n c am x).setCell ⟨w.heap.size + 1 + 1 + 1 + 1, 1, none⟩ (.int .i64 (n : Int))) := (wantW_below w a n c am x).setCell (by simp <;> omega) _
  have hDn : Dd ((wantW w a n c am x).setCell ⟨w.heap.size + 1 + 1 + 1 + 1, 1, none⟩ (.int .i64 (n : Int))) (boxG w F) a n s := h.boxG.below hbn
  rw [← hW5] at hBn hbn hDn
  have hWe : W5 = ((((w.alloc (.cells #[.slice a n c, .bool am] 45)).alloc (.cells #[.int .i64 x.k, .int .i64 x.i, .int .i64 x.a, .int .i64 x.b, .slice x.p.a x.p.p.length x.p.c, .slice x.fa x.fn x.fc] 61)).alloc (.cells #[.int .i64 0, .int .i64 0, .int .i64 0, .int .i64 0, .slice none 0 0, .slice none 0 0] 63)).alloc (.cells #[.slice none 0 0, .bool false] 45)).alloc (.cells #[.int .i64 0, .int .i64 (n : Int), .int .i64 0, .int .i64 0, .slice none 0 0, .slice none 0 0] 63) := by
    rw [hW5]
    exact World.setCell_alloc_at _ _ _ _ _ (by simp)
  clear hW5
  have hTn : TV W5 (w.heap.size + 5) _ ⟨0, (n : Int), 0, 0, [], 0, fun _ => (0, [])⟩ := tv0 W5 (w.heap.size + 5) 0 (n : Int) 0 0
  have HC : Hid (calS am n s x = (⟨0, (n : Int), 0, 0, [], 0, fun _ => (0, [])⟩, am, s)) := by
    unfold Hid calS
    rw [hx, if_neg (by decide), if_neg (by decide), if_neg (by decide), if_neg (by decide), if_neg (by decide), if_neg (by decide), if_neg (by decide), if_pos rfl]; rfl
  obtain ⟨xk, xi, xa, xb, ⟨pa, pc, ps⟩, fa, fn, fc, ff⟩ := x
  simp only at hx
  subst hx
  clear h
  go_enter Try.func24, Try.ntmps24
  go_wp2_with fail
  rw [← hWe]
  obtain ⟨r0, r1, r2, r3, r4, r5, rz⟩ := hBn.r.cells
  obtain ⟨q0, q1, qz⟩ := hBn.q.cells
  obtain ⟨d0, d1, dz⟩ := hBn.d.cells
  obtain ⟨t0, t1, t2, t3, t4, t5, tz⟩ := hBn.t.cells
  have hend := want_fin (c := c) (am := am) hTn hDn hbn
  rw [← HC.out] at hend
  clear hBn hTn hDn hbn HC hWe
  go_region
  go_wp2_with fail
  refine bodyPost_ret (v := .tuple #[.agg #[.int .i64 0, .int .i64 (n : Int), .int .i64 0, .int .i64 0, (.slice none 0 0), (.slice none 0 0)], valD a n c am]) ?_ rfl hend
  simp [results, Try.results24, go_sem, r0, r1, r2, r3, r4, r5, q0, q1]

/-- What is known of a disk's fates besides. -/
structure Fts (am : Bool) (n : Nat) (s : Nat → Pt) : Prop where
  fk : ∀ i, i < n → (s i).fk ≤ 9223372036854775807
  off : am = false → ∀ i, i < n → (s i).fk = 0 ∧ (s i).ft = 0
theorem want_any (h : Dd w F a n s) (hF : ∀ b, F b → b < w.heap.size) (x : Cal) (hx : CalOk w x) (M : Nat) (hB : Bnd M n s) (hM : M + 1 + x.p.p.length ≤ 70368744177664) (hf : Fts am n s) :
    Calls Try.prog 24 #[valD a n c am, valC x] w fun e w' => WantTo w F n (calS am n s x) e w' := by
  by_cases h0 : x.k = 0
  · exact want_append h hF x h0 hx M hB hM
  by_cases h1 : x.k = 1
  · exact want_sync h hF x h1 hx M hB hM
  by_cases h2 : x.k = 2
  · exact want_cut h hF x h2 hx M hB hM
  by_cases h3 : x.k = 3
  · exact want_trim h hF x h3 hx M hB hM
  by_cases h4 : x.k = 4
  · exact want_read h hF x h4 hx M hB hM
  by_cases h5 : x.k = 5
  · exact want_bounds h hF x h5 hx M hB hM
  by_cases h6 : x.k = 6
  · exact want_done h hF x h6 hx M hB hM
  by_cases h7 : x.k = 7
  · exact want_arm h hF x h7 hx M hB hM
  by_cases h8 : x.k = 8
  · exact want_strike h hF x h8 hx M hB hM hf.fk hf.off
  by_cases h9 : x.k = 9
  · exact want_image h hF x h9 hx M hB hM
  by_cases h10 : x.k = 10
  · exact want_areas h x h10
  exact want_else h x (by omega)
theorem Fts.new (n : Nat) : Fts false n (fun _ => ⟨0, [], 0, 0, 0, 0, 0⟩) := ⟨fun _ _ => by simp, fun _ _ _ => ⟨rfl, rfl⟩⟩
end
end Go.Proofs.Ytdodnegdpdhbiaa

namespace Go.Proofs.Ytdodnegdpdhbiaa
open Go.RowKit

theorem opX_fate (x : Pt) (kd : Nat) (A : Int) (zs : List Nat) : (opX x kd A zs).2.fk = x.fk ∧ (opX x kd A zs).2.ft = x.ft := by
  unfold opX
  split
  · exact ⟨rfl, rfl⟩
  · split
    · exact ⟨rfl, rfl⟩
    · split
      · split <;> exact ⟨rfl, rfl⟩
      · split <;> exact ⟨rfl, rfl⟩
theorem opS_fate (am : Bool) (x : Pt) (kd : Nat) (A : Int) (zs : List Nat) : (opS am x kd A zs).2.fk = x.fk ∧ (opS am x kd A zs).2.ft = x.ft := by
  unfold opS
  split
  · exact ⟨rfl, rfl⟩
  · exact opX_fate x kd A zs
theorem Fts.call {am : Bool} {n : Nat} {s : Nat → Pt} (h : Fts am n s) {w : World} (x : Cal) (hx : CalOk w x) : Fts (calS am n s x).2.1 n (calS am n s x).2.2 := by
  unfold calS
  split
  · split
    · refine ⟨fun i hi => ?_, fun e i hi => ?_⟩
      · simp only
        by_cases hj : i = x.i.toNat
        · subst hj; rw [upd_at, (opS_fate _ _ _ _ _).1]; exact h.fk _ hi
        · rw [upd_ne _ _ _ hj]; exact h.fk i hi
      · simp only at e ⊢
        by_cases hj : i = x.i.toNat
        · subst hj; rw [upd_at, (opS_fate _ _ _ _ _).1, (opS_fate _ _ _ _ _).2]; exact h.off e _ hi
        · rw [upd_ne _ _ _ hj]; exact h.off e i hi
    · exact h
  · split
    · exact h
    · split
      · exact h
      · split
        · exact h
        · split
          · refine ⟨fun i hi => ?_, fun e => by cases e⟩
            simp only
            unfold armTo armX
            rw [if_pos hi]
            simp only
            split
            · next hl => exact (hx.f.each i hl).k.2
            · omega
          · split
            · refine ⟨fun i hi => ?_, fun _ i hi => ?_⟩
              · simp only
                unfold strS armTo armX
                rw [if_pos hi]
                simp
              · simp only
                unfold strS armTo armX
                rw [if_pos hi]
                exact ⟨rfl, rfl⟩
            · split
              · exact h
              · split <;> exact h

/-- Both disks in one state: the program's at p in blocks F, the document's in the box D. -/
structure Bo (w0 W : World) (p D : Nat) (F : Nat → Prop) (a : Option Addr) (c : Nat) (am : Bool) (n : Nat) (s : Nat → Pt) : Prop where
  dsk : Dsk W F p am n s
  low : ∀ b, F b → w0.heap.size ≤ b
  doc : Dd W (fun b => F b ∨ b = D) a n s
  box : BxD W D a n c am
  out : ¬ F D
  dlow : w0.heap.size ≤ D
  bel : Below w0.heap.size w0 W
  fts : Fts am n s
section
variable {w0 W W' : World} {p D : Nat} {F : Nat → Prop} {a a' : Option Addr} {c c' : Nat} {am am' : Bool} {n : Nat} {s s' : Nat → Pt}
theorem BxD.lt {b : Nat} (h : BxD W b a n c am) : b < W.heap.size := (Array.getElem?_eq_some_iff.1 h).1
theorem Bo.below (h : Bo w0 W p D F a c am n s) (hb : Below W.heap.size W W') : Bo w0 W' p D F a c am n s :=
  ⟨h.dsk.below hb, h.low, h.doc.below hb, (hb.block D h.box.lt).trans h.box, h.out, h.dlow, h.bel.trans (hb.mono h.bel.size), h.fts⟩
/-- The document's disk of the step is known, the program has made it too. -/
theorem Bo.step (h : Bo w0 W p D F a c am n s) (hf : Fts am' n s') (hd : Dd W (fun b => F b ∨ b = D) a' n s') (hw : Went W F p am' n s' W') (c' : Nat) :
    Bo w0 ((W'.setCell ⟨D, 0, none⟩ (.slice a' n c')).setCell ⟨D, 1, none⟩ (.bool am')) p D (upto F W W') a' c' am' n s' := by
  have hDl := h.box.lt
  have hc : Chg (fun b => b = D) W' ((W'.setCell ⟨D, 0, none⟩ (.slice a' n c')).setCell ⟨D, 1, none⟩ (.bool am')) := by
    have h0 : Chg (fun b => b = D) W' W' := Chg.refl _ _
    exact (h0.setCell ⟨D, 0, none⟩ _ (fun _ => rfl)).setCell ⟨D, 1, none⟩ _ (fun _ => rfl)
  have hout : ¬ upto F W W' D := fun hx => by
    rcases hx with hx | hx
    · exact h.out hx
    · omega
  have hbx : BxD W' D a n c am := (hw.chg.block D hDl h.out).trans h.box
  have hd2 : Dd W' (fun b => (F b ∨ b = D) ∨ W.heap.size ≤ b) a' n s' := hd.grow.chg (hw.chg.mono fun b _ hb => .inl (.inl hb))
  refine ⟨hw.dsk.chg hc (fun b hb e => by subst e; exact hout hb), fun b hb => ?_, ?_, ?_, hout, h.dlow, ?_, hf⟩
  · rcases hb with hb | hb
    · exact h.low b hb
    · have := h.bel.size; omega
  · refine (hd2.chg (hc.mono fun b _ hb => .inl (.inr hb))).anti fun b hb => ?_
    rcases hb with (hb | hb) | hb
    · exact .inl (.inl hb)
    · exact .inr hb.1
    · exact .inl (.inr hb)
  · unfold BxD
    rw [heap_setCell_same _ D 1 _ _ _ (heap_setCell_same W' D 0 _ _ _ hbx)]; rfl
  · exact (h.bel.trans (hw.chg.below (fun b hb => h.low b hb) h.bel.size)).trans (hc.below (fun b hb => by subst hb; exact h.dlow) (by have := h.bel.size; have := hw.chg.size; omega))
end
end Go.Proofs.Ytdodnegdpdhbiaa
