/- Opening a law's argument that is a slice of bytes. What the bound on each part's size gives for parts of parts. Opening a part of a law's argument that is a slice of bytes. Opening a law's argument that is a list of structs: api.Entry. -/
import Derived.Test.YtlhlpofmeeiffabBt1
import Derived.ProofKit
import Derived.OpenShut
import Derived.SizedLaws
import Derived.ShutString
import Derived.ChangeOld
import Derived.Lib.SmallJoins
import Derived.Deep.Slices
namespace Go.Proofs.Ytlhlpofmeeiffab
open Go.ChangeShapes Go.WideShapes Go.ChangeAt Go.RowKit

theorem own : ownKnob Try.prog.godebug = none := by kernel_rfl
theorem laidOut : laidOutB Try.prog = true := by kernel_rfl

theorem nat_of_u32 {a : Int} (h : (Lit.int .u32 a).wf = true) : ∃ n : Nat, a = (n : Int) ∧ n < 4294967296 := by
  simp [Lit.wf, IntKind.min, IntKind.max, IntKind.bits, IntKind.signed] at h
  exact ⟨a.toNat, by omega, by omega⟩
theorem nat_of_u64 {a : Int} (h : (Lit.int .u64 a).wf = true) : ∃ n : Nat, a = (n : Int) ∧ W64 n := by
  have hb := bounds_u64 h
  refine ⟨a.toNat, by omega, ?_⟩
  unfold W64; omega

/-- What a walk is told of a slice of bytes that came in. -/
structure Came8 (w : World) (a : Option Addr) (cap : Nat) (zs : List Nat) : Prop where
  row : RowB w a zs
  all : All8 zs
  size : zs.length ≤ 140737488351232
  fits : zs.length ≤ cap
  capm : cap ≤ maxLen
  none : a = none → zs.length = 0 ∧ cap = 0

theorem bytes8 : Try.prog.bytesOf 5 = 1 := by kernel_rfl
theorem bounds_u8' {a : Int} (h : (Lit.int .u8 a).wf = true) : 0 ≤ a ∧ a < 256 := by
  simp [Lit.wf, IntKind.min, IntKind.max, IntKind.bits, IntKind.signed] at h
  omega

set_option maxRecDepth 100000 in
theorem open_bytes {H : Type} {enc : TypeId × Value → H} {W : World} {base : Nat} {v : Value} {d : DataW H} {p : List MemPlace}
    (hok : Value.okWide Try.prog W .any base 22 v) (h : DataW.Trod enc Try.prog W 0 (fun _ => true) true 22 v d p)
    (hsz : ∀ el sp, d = .slice el sp → (el.length + sp.length) * Try.prog.bytesOf 5 ≤ reachBytes) :
    ∃ (a : Option Addr) (zs : List Nat) (cap : Nat), v = .slice a zs.length cap ∧ Came8 W a cap zs := by
  obtain ⟨a0, len, cap, rfl⟩ := okWide_slice Try.underlying22 hok
  obtain ⟨fuel, hf⟩ := h
  rcases open_ints Try.underlying22 Try.underlying5 (by kernel_rfl) hf with ⟨hcs, hx⟩ | ⟨x, l, c, zs, hcs, _, hl, hm, hz, hx, hcell, hwz⟩
  · simp [Value.cells] at hcs
    obtain ⟨rfl, rfl, rfl⟩ := hcs
    exact ⟨none, [], 0, rfl, ⟨.inl rfl, fun z hz => (by cases hz), by simp, by simp, by simp [maxLen], fun _ => ⟨rfl, rfl⟩⟩⟩
  · simp [Value.cells] at hcs
    obtain ⟨rfl, rfl, rfl⟩ := hcs
    have hd : d = .slice (lits .u8 (zs.take len)) (lits .u8 (zs.drop len)) := (congrArg Prod.fst hx)
    have hzc : zs.length = cap := by simpa using hz
    have hb := hsz _ _ hd
    rw [bytes8] at hb
    simp [lits] at hb
    have hb2 : zs.length ≤ 140737488351232 := by
      unfold reachBytes at hb
      have e : min len zs.length + (zs.length - len) = zs.length := by omega
      rw [e] at hb; omega
    have hlen : ((zs.take len).map Int.toNat).length = len := by simp; omega
    refine ⟨some x, (zs.take len).map Int.toNat, cap, by rw [hlen], ⟨?_, ?_, by rw [hlen]; omega, by rw [hlen]; exact hl, hm, fun e => by cases e⟩⟩
    · by_cases h0 : len = 0
      · exact .inl (by rw [hlen]; exact h0)
      · obtain ⟨b, off, rfl, hc⟩ := ints_at hcell (by omega)
        refine .inr ⟨b, off, rfl, ?_, fun i hi => ?_⟩
        · have := hc 0 (by omega)
          exact World.block_lt_of_cell? W _ this
        · rw [hlen] at hi
          rw [hc i (by omega)]
          have hmem : zs.getD i 0 ∈ zs := by rw [List.getD_eq_getElem?_getD, List.getElem?_eq_getElem (by omega)]; exact List.getElem_mem _
          have hbd := bounds_u8' (hwz _ hmem)
          have e : at0 ((zs.take len).map Int.toNat) i = (zs.getD i 0).toNat := by
            unfold at0
            rw [List.getD_eq_getElem?_getD, List.getElem?_map, List.getElem?_take_of_lt hi, List.getD_eq_getElem?_getD, List.getElem?_eq_getElem (by omega)]; rfl
          rw [e, Int.toNat_of_nonneg hbd.1]
    · intro z hz
      obtain ⟨y, hy, rfl⟩ := List.mem_map.1 hz
      have hbd := bounds_u8' (hwz y (List.mem_of_mem_take hy))
      omega

set_option maxRecDepth 100000 in
/-- As 'open_bytes', and what bounds the number of the reading's elements bounds the list. -/
theorem open_bytes2 {H : Type} {enc : TypeId × Value → H} {W : World} {base : Nat} {v : Value} {d : DataW H} {p : List MemPlace}
    (hok : Value.okWide Try.prog W .any base 22 v) (h : DataW.Trod enc Try.prog W 0 (fun _ => true) true 22 v d p)
    (hsz : ∀ el sp, d = .slice el sp → (el.length + sp.length) * Try.prog.bytesOf 5 ≤ reachBytes) :
    ∃ (a : Option Addr) (zs : List Nat) (cap : Nat), v = .slice a zs.length cap ∧ Came8 W a cap zs ∧ ∀ N : Nat, (∀ el sp, d = .slice el sp → el.length ≤ N) → zs.length ≤ N := by
  obtain ⟨a, zs, cap, rfl, hc⟩ := open_bytes hok h hsz
  refine ⟨a, zs, cap, rfl, hc, fun N hN => ?_⟩
  obtain ⟨fuel, hf⟩ := h
  rcases open_ints Try.underlying22 Try.underlying5 (by kernel_rfl) hf with ⟨hcs, hx⟩ | ⟨x, l, c, ws, hcs, _, hl, hm, hz, hx, hcell, hwz⟩
  · simp [Value.cells] at hcs
    rw [hcs.2.1]; simp
  · simp [Value.cells] at hcs
    obtain ⟨_, h2, h3⟩ := hcs
    have hzc : ws.length = c := by simpa using hz
    have hd : d = .slice (lits .u8 (ws.take l)) (lits .u8 (ws.drop l)) := (congrArg Prod.fst hx)
    have := hN _ _ hd
    simp [lits] at this
    omega

end Go.Proofs.Ytlhlpofmeeiffab

namespace Go.Proofs.Ytlhlpofmeeiffab
open Go

section
variable {H : Type} {P : Program}

/-- No part of a reading is too large. -/
def Fits (P : Program) (t : TypeId) (d : DataW H) : Prop := ∀ n ∈ d.weights P t, n ≤ reachBytes

theorem fits_param {ts : List TypeId} {ds : List (DataW H)} (h : (DataW.weightsEach P ts ds).all (· ≤ reachBytes) = true) {j : Nat} {t : TypeId} {d : DataW H} (ht : ts[j]? = some t) (hd : ds[j]? = some d) : Fits P t d := fun n hn => by
  have := List.all_eq_true.1 h _ (DataW.weights_mem_each ht hd n hn)
  simpa using this
theorem fits_len {t e : TypeId} {el sp : List (DataW H)} (h : Fits P t (.slice el sp)) (hu : P.underlying t = some (.slice e)) : (el.length + sp.length) * P.bytesOf e ≤ reachBytes :=
  h _ (by simp [DataW.weights, hu])
theorem weightsAll_mem {e : TypeId} {d : DataW H} : ∀ {l : List (DataW H)}, d ∈ l → ∀ n ∈ d.weights P e, n ∈ DataW.weightsAll P e l
  | x :: r, hd, n, hn => by
    simp only [DataW.weightsAll, List.mem_append]
    rcases List.mem_cons.1 hd with rfl | h
    · exact .inl hn
    · exact .inr (weightsAll_mem h n hn)
theorem fits_elem {t e : TypeId} {el sp : List (DataW H)} (h : Fits P t (.slice el sp)) (hu : P.underlying t = some (.slice e)) {d : DataW H} (hd : d ∈ el) : Fits P e d := fun n hn =>
  h _ (by simp only [DataW.weights, hu, List.mem_cons, List.mem_append]; exact .inr (.inl (weightsAll_mem hd n hn)))
theorem fits_field {t tj : TypeId} {fs : Array Field} {parts : List (DataW H)} (h : Fits P t (.agg parts)) (hu : P.underlying t = some (.struct fs)) {j : Nat} {d : DataW H} (hf : (fs.toList.map (·.type))[j]? = some tj) (hd : parts[j]? = some d) : Fits P tj d := fun n hn =>
  h _ (by simp only [DataW.weights, hu]; exact DataW.weights_mem_each hf hd n hn)
end
end Go.Proofs.Ytlhlpofmeeiffab

namespace Go.Proofs.Ytlhlpofmeeiffab
open Go.ChangeShapes Go.WideShapes Go.ChangeAt Go.RowKit Go.Joins Go.Deep

/-- A slice of bytes: where, how much room, which bytes. -/
structure Pc where
  a : Option Addr
  c : Nat
  p : List Nat
/-- What is known of one. -/
structure PcOk (w : World) (x : Pc) : Prop where
  row : RowB w x.a x.p
  all : All8 x.p
  size : x.p.length ≤ 140737488351232
  none : x.a = none → x.p.length = 0 ∧ x.c = 0
theorem PcOk.below {w w' : World} {x : Pc} (h : PcOk w x) (hb : Below w.heap.size w w') : PcOk w' x := ⟨h.row.below hb, h.all, h.size, h.none⟩

section
variable {H : Type} {enc : TypeId × Value → H} {W : World}

theorem one_cell {cs : List Value} {j : Nat} {v : Value} (h : (cs.drop j).take 1 = [v]) : cs[j]? = some v := by
  have h0 : ((cs.drop j).take 1)[0]? = some v := by rw [h]; rfl
  rw [List.getElem?_take_of_lt (by omega), List.getElem?_drop] at h0
  simpa using h0
theorem take_one_of {cs : List Value} {j : Nat} (h : j < cs.length) : ∃ v, (cs.drop j).take 1 = [v] := by
  refine ⟨cs[j], ?_⟩
  rw [List.drop_eq_getElem_cons h]
  rfl

set_option maxRecDepth 100000 in
theorem open_p {fuel : Nat} {v : Value} {x : DataW H × List MemPlace} (hf : DataW.trod enc Try.prog W 0 (fun _ => true) true fuel 22 [v] = some x) (hb : Fits Try.prog 22 x.1) :
    ∃ y : Pc, v = .slice y.a y.p.length y.c ∧ PcOk W y := by
  rcases open_ints Try.underlying22 Try.underlying5 (by kernel_rfl) hf with ⟨hcs, _⟩ | ⟨x', len, cap, zs, hcs, _, hl, hm, hz, rfl, hcell, hwz⟩
  · simp at hcs
    subst hcs
    exact ⟨⟨none, 0, []⟩, rfl, .inl rfl, fun z hz => (by cases hz), by simp, fun _ => ⟨rfl, rfl⟩⟩
  · simp at hcs
    subst hcs
    have hzc : zs.length = cap := by simpa using hz
    have hlen : ((zs.take len).map Int.toNat).length = len := by simp; omega
    have hl2 : len ≤ 140737488351232 := by
      have h1 := fits_len hb Try.underlying22
      rw [bytes8] at h1
      simp [lits] at h1
      unfold reachBytes at h1
      omega
    refine ⟨⟨some x', cap, (zs.take len).map Int.toNat⟩, by simp only [hlen], ?_, ?_, by simp only [hlen]; exact hl2, fun e => by cases e⟩
    · by_cases h0 : len = 0
      · exact .inl (by simp only [hlen]; exact h0)
      · obtain ⟨b, off, rfl, hc⟩ := ints_at hcell (by omega)
        refine .inr ⟨b, off, rfl, ?_, fun i hi => ?_⟩
        · have := hc 0 (by omega)
          exact World.block_lt_of_cell? W _ this
        · simp only [hlen] at hi
          rw [hc i (by omega)]
          have hmem : zs.getD i 0 ∈ zs := by rw [List.getD_eq_getElem?_getD, List.getElem?_eq_getElem (by omega)]; exact List.getElem_mem _
          have hbd := bounds_u8' (hwz _ hmem)
          have e : at0 ((zs.take len).map Int.toNat) i = (zs.getD i 0).toNat := by
            unfold at0
            rw [List.getD_eq_getElem?_getD, List.getElem?_map, List.getElem?_take_of_lt hi, List.getD_eq_getElem?_getD, List.getElem?_eq_getElem (by omega)]; rfl
          simp only [e]
          rw [Int.toNat_of_nonneg hbd.1]
    · intro z hz
      obtain ⟨y, hy, rfl⟩ := List.mem_map.1 hz
      have hbd := bounds_u8' (hwz y (List.mem_of_mem_take hy))
      omega

end
end Go.Proofs.Ytlhlpofmeeiffab

namespace Go.Proofs.Ytlhlpofmeeiffab
open Go.ChangeShapes Go.WideShapes Go.ChangeAt Go.RowKit Go.Joins Go.Deep

/-- One of api.Entry. -/
structure Ent where
  kind : Int
  stamp : Int
  count : Int
  key : ByteArray
  val : Pc
  dead : Bool
def zeroEnt : Ent := ⟨0, 0, 0, .empty, ⟨none, 0, []⟩, false⟩
/-- What is known of one. -/
structure EntOk (w : World) (x : Ent) : Prop where
  kind : -9223372036854775808 ≤ x.kind ∧ x.kind ≤ 9223372036854775807
  stamp : -9223372036854775808 ≤ x.stamp ∧ x.stamp ≤ 9223372036854775807
  count : -9223372036854775808 ≤ x.count ∧ x.count ≤ 9223372036854775807
  key : x.key.size ≤ 140737488351232
  val : PcOk w x.val
  dead : True
theorem EntOk.below {w w' : World} {x : Ent} (h : EntOk w x) (hb : Below w.heap.size w w') : EntOk w' x := ⟨h.kind, h.stamp, h.count, h.key, h.val.below hb, h.dead⟩
/-- A row of them. -/
def RowEnt (w : World) (a : Option Addr) (n : Nat) (A : Nat → Ent) : Prop :=
  n = 0 ∨ ∃ b o, a = some ⟨b, o, none⟩ ∧ b < w.heap.size ∧ ∀ i, i < n → w.cell? ⟨b, o + i * 6, none⟩ = some (.int .i64 (A i).kind) ∧ w.cell? ⟨b, o + i * 6 + 1, none⟩ = some (.int .i64 (A i).stamp) ∧ w.cell? ⟨b, o + i * 6 + 2, none⟩ = some (.int .i64 (A i).count) ∧ w.cell? ⟨b, o + i * 6 + 3, none⟩ = some (.string (A i).key) ∧ w.cell? ⟨b, o + i * 6 + 4, none⟩ = some (.slice (A i).val.a (A i).val.p.length (A i).val.c) ∧ w.cell? ⟨b, o + i * 6 + 5, none⟩ = some (.bool (A i).dead)
theorem RowEnt.here {w : World} {a : Option Addr} {n : Nat} {A : Nat → Ent} (h : RowEnt w a n A) {i : Nat} (hi : i < n) :
    ∃ b o, a = some ⟨b, o, none⟩ ∧ b < w.heap.size ∧ w.cell? ⟨b, o + i * 6, none⟩ = some (.int .i64 (A i).kind) ∧ w.cell? ⟨b, o + i * 6 + 1, none⟩ = some (.int .i64 (A i).stamp) ∧ w.cell? ⟨b, o + i * 6 + 2, none⟩ = some (.int .i64 (A i).count) ∧ w.cell? ⟨b, o + i * 6 + 3, none⟩ = some (.string (A i).key) ∧ w.cell? ⟨b, o + i * 6 + 4, none⟩ = some (.slice (A i).val.a (A i).val.p.length (A i).val.c) ∧ w.cell? ⟨b, o + i * 6 + 5, none⟩ = some (.bool (A i).dead) := by
  rcases h with h | ⟨b, o, e, hlt, hc⟩
  · omega
  · exact ⟨b, o, e, hlt, hc i hi⟩
theorem RowEnt.below {w w' : World} {a : Option Addr} {n : Nat} {A : Nat → Ent} (h : RowEnt w a n A) (hb : Below w.heap.size w w') : RowEnt w' a n A := by
  rcases h with h | ⟨b, o, e, hlt, hc⟩
  · exact .inl h
  · refine .inr ⟨b, o, e, Nat.lt_of_lt_of_le hlt hb.size, fun i hi => ?_⟩
    obtain ⟨q0, q1, q2, q3, q4, q5⟩ := hc i hi
    exact ⟨by rw [hb.cell (p := ⟨b, o + i * 6, none⟩) hlt]; exact q0, by rw [hb.cell (p := ⟨b, o + i * 6 + 1, none⟩) hlt]; exact q1, by rw [hb.cell (p := ⟨b, o + i * 6 + 2, none⟩) hlt]; exact q2, by rw [hb.cell (p := ⟨b, o + i * 6 + 3, none⟩) hlt]; exact q3, by rw [hb.cell (p := ⟨b, o + i * 6 + 4, none⟩) hlt]; exact q4, by rw [hb.cell (p := ⟨b, o + i * 6 + 5, none⟩) hlt]; exact q5⟩
structure CameEnt (w : World) (a : Option Addr) (n : Nat) (A : Nat → Ent) : Prop where
  row : RowEnt w a n A
  size : n ≤ 1954687338211
  each : ∀ i, i < n → EntOk w (A i)
theorem CameEnt.below {w w' : World} {a : Option Addr} {n : Nat} {A : Nat → Ent} (h : CameEnt w a n A) (hb : Below w.heap.size w w') : CameEnt w' a n A := ⟨h.row.below hb, h.size, fun i hi => (h.each i hi).below hb⟩

theorem cellsEnt0 : Try.prog.cellsOf 3 = 1 := by kernel_rfl
theorem cellsEnt1 : Try.prog.cellsOf 9 = 1 := by kernel_rfl
theorem cellsEnt2 : Try.prog.cellsOf 22 = 1 := by kernel_rfl
theorem cellsEnt3 : Try.prog.cellsOf 4 = 1 := by kernel_rfl
theorem cellsEnt : Try.prog.cellsOf 24 = 6 := by kernel_rfl
theorem bytesEnt : Try.prog.bytesOf 24 = 72 := by kernel_rfl

section
variable {H : Type} {enc : TypeId × Value → H} {W : World}

/-- One, told by its cells. -/
def EntAt (W : World) (cs : List Value) (t : Ent) : Prop := EntOk W t ∧ cs[0]? = some (.int .i64 t.kind) ∧ cs[1]? = some (.int .i64 t.stamp) ∧ cs[2]? = some (.int .i64 t.count) ∧ cs[3]? = some (.string t.key) ∧ cs[4]? = some (.slice t.val.a t.val.p.length t.val.c) ∧ cs[5]? = some (.bool t.dead)

set_option maxRecDepth 100000 in
theorem open_Ent1 {n : Nat} {cs : List Value} {x : DataW H × List MemPlace} (h : DataW.trod enc Try.prog W 0 (fun _ => true) true n 24 cs = some x) (hb : Fits Try.prog 24 x.1) : ∃ t : Ent, EntAt W cs t := by
  obtain ⟨xs, q, _, rfl, hl, hxl, hf⟩ := DataW.trod_struct Try.underlying24 h
  have hxm : xs.length = 6 := hxl
  rw [cellsEnt] at hl
  match xs, hxm with
  | [y0, y1, y2, y3, y4, y5], _ =>
    have f0 : DataW.trod enc Try.prog W 0 (fun _ => true) true q 3 ((cs.drop 0).take (Try.prog.cellsOf 3)) = some y0 := hf 0 _ rfl
    rw [cellsEnt0] at f0
    obtain ⟨v0, e0, _, w0⟩ := DataW.trod_int Try.underlying3 f0
    have f1 : DataW.trod enc Try.prog W 0 (fun _ => true) true q 3 ((cs.drop 1).take (Try.prog.cellsOf 3)) = some y1 := hf 1 _ rfl
    rw [cellsEnt0] at f1
    obtain ⟨v1, e1, _, w1⟩ := DataW.trod_int Try.underlying3 f1
    have f2 : DataW.trod enc Try.prog W 0 (fun _ => true) true q 3 ((cs.drop 2).take (Try.prog.cellsOf 3)) = some y2 := hf 2 _ rfl
    rw [cellsEnt0] at f2
    obtain ⟨v2, e2, _, w2⟩ := DataW.trod_int Try.underlying3 f2
    have f3 : DataW.trod enc Try.prog W 0 (fun _ => true) true q 9 ((cs.drop 3).take (Try.prog.cellsOf 9)) = some y3 := hf 3 _ rfl
    rw [cellsEnt1] at f3
    obtain ⟨v3, e3, z3, _⟩ := DataW.trod_string Try.underlying9 f3
    have g3 : Fits Try.prog 9 y3.1 := fits_field (j := 3) hb Try.underlying24 rfl rfl
    have s3 : v3.size ≤ 140737488351232 := by
      rw [z3] at g3
      have h1 := g3 v3.data.toList.length (by simp [DataW.weights])
      unfold reachBytes at h1
      rw [Array.length_toList] at h1
      exact h1
    have f4 : DataW.trod enc Try.prog W 0 (fun _ => true) true q 22 ((cs.drop 4).take (Try.prog.cellsOf 22)) = some y4 := hf 4 _ rfl
    rw [cellsEnt2] at f4
    obtain ⟨u4, e4⟩ := take_one_of (cs := cs) (j := 4) (by omega)
    have p4 : DataW.trod enc Try.prog W 0 (fun _ => true) true q 22 [u4] = some y4 := by rw [← e4]; exact f4
    have g4 : Fits Try.prog 22 y4.1 := fits_field (j := 4) hb Try.underlying24 rfl rfl
    obtain ⟨v4, rfl, k4⟩ := open_p p4 g4
    have f5 : DataW.trod enc Try.prog W 0 (fun _ => true) true q 4 ((cs.drop 5).take (Try.prog.cellsOf 4)) = some y5 := hf 5 _ rfl
    rw [cellsEnt3] at f5
    obtain ⟨v5, e5, _⟩ := DataW.trod_bool Try.underlying4 f5
    exact ⟨⟨v0, v1, v2, v3, v4, v5⟩, ⟨bounds_i64 w0, bounds_i64 w1, bounds_i64 w2, s3, k4, trivial⟩, one_cell e0, one_cell e1, one_cell e2, one_cell e3, one_cell e4, one_cell e5⟩

set_option maxRecDepth 100000 in
theorem open_Entv {base : Nat} {v : Value} {d : DataW H} {p : List MemPlace} (hok : Value.okWide Try.prog W .any base 24 v) (h : DataW.Trod enc Try.prog W 0 (fun _ => true) true 24 v d p)
    (hb : Fits Try.prog 24 d) : ∃ t : Ent, v = .agg #[.int .i64 t.kind, .int .i64 t.stamp, .int .i64 t.count, .string t.key, .slice t.val.a t.val.p.length t.val.c, .bool t.dead] ∧ EntOk W t := by
  obtain ⟨cs, rfl, hsz⟩ := okWide_struct Try.underlying24 hok
  rw [cellsEnt] at hsz
  obtain ⟨fuel, hf⟩ := h
  obtain ⟨t, hok, h0, h1, h2, h3, h4, h5⟩ := open_Ent1 (x := (d, p)) hf hb
  refine ⟨t, ?_, hok⟩
  have e : (Value.agg cs).cells.toList = cs.toList := rfl
  rw [e] at h0 h1 h2 h3 h4 h5
  simp only [Array.getElem?_toList] at h0 h1 h2 h3 h4 h5
  congr 1
  apply Array.ext'
  match hcs : cs.toList, (show cs.toList.length = 6 by simpa using hsz) with
  | [x0, x1, x2, x3, x4, x5], _ =>
    have q : ∀ i, cs[i]? = [x0, x1, x2, x3, x4, x5][i]? := fun i => by rw [← hcs, Array.getElem?_toList]
    rw [q] at h0 h1 h2 h3 h4 h5
    simp at h0 h1 h2 h3 h4 h5
    rw [h0, h1, h2, h3, h4, h5]

end
end Go.Proofs.Ytlhlpofmeeiffab
