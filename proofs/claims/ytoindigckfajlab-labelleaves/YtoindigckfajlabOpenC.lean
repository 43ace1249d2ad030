/- Opening a config that came in: its labels, its accounts, its sessions. -/
import Derived.Test.YtoindigckfajlabOpen
import Derived.Test.YtoindigckfajlabMay1
import Derived.Lib.SmallJoins
import Derived.Deep.Slices
namespace Go.Proofs.Ytoindigckfajlab
open Go.ChangeShapes Go.WideShapes Go.ChangeAt Go.RowKit Go.Joins Go.Deep

/-- What a walk is told of a config that came in. -/
structure CameC (w : World) (a b c : Option Addr) (ca cb cc n k : Nat) (zs : List Nat) (A : Nat → Nat → Int) (S : Nat → Int) : Prop where
  lab : Came1 w a ca zs
  acc : RowA w b n A
  accs : 40 * n ≤ 140737488355328
  ses : RowZ w c k S
  sess : 8 * k ≤ 140737488355328
  none : c = none → k = 0 ∧ cc = 0

theorem bytesI : Try.prog.bytesOf 3 = 8 := by kernel_rfl
theorem bytesA : Try.prog.bytesOf 50 = 40 := by kernel_rfl
theorem cellsA : Try.prog.cellsOf 50 = 5 := by kernel_rfl
theorem cellsI : Try.prog.cellsOf 3 = 1 := by kernel_rfl
theorem cellsC : Try.prog.cellsOf 44 = 3 := by kernel_rfl

theorem sized_parts {H : Type} {P : Program} {ts : List TypeId} {ds parts : List (DataW H)} {t : TypeId} {fs : Array Field} {j : Nat} (h : (DataW.weightsEach P ts ds).all (· ≤ reachBytes) = true) (ht : ts[j]? = some t) (hd : ds[j]? = some (.agg parts)) (hu : P.underlying t = some (.struct fs)) :
    (DataW.weightsEach P (fs.toList.map (·.type)) parts).all (· ≤ reachBytes) = true :=
  List.all_eq_true.2 fun n hn => List.all_eq_true.1 h n (DataW.weights_mem_each ht hd n (by simp only [DataW.weights, hu]; exact hn))

section
variable {H : Type} {enc : TypeId × Value → H} {W : World}

set_option maxRecDepth 100000 in
theorem open_labelsC {fuel : Nat} {v : Value} {d : DataW H} {p : List MemPlace} (hf : DataW.trod enc Try.prog W 0 (fun _ => true) true fuel 22 [v] = some (d, p))
    (hsz : ∀ el sp, d = .slice el sp → (el.length + sp.length) * Try.prog.bytesOf 36 ≤ reachBytes) :
    ∃ (a : Option Addr) (cap : Nat) (zs : List Nat), v = .slice a zs.length cap ∧ Came1 W a cap zs := by
  rcases open_ints Try.underlying22 Try.underlying36 (by kernel_rfl) hf with ⟨hcs, hx⟩ | ⟨x, len, cap, zs, hcs, _, hl, hm, hz, hx, hcell, hwz⟩
  · simp at hcs
    subst hcs
    exact ⟨none, 0, [], rfl, ⟨.inl rfl, fun z hz => (by cases hz), by simp, by simp, by simp [maxLen], fun _ => ⟨rfl, rfl⟩⟩⟩
  · simp at hcs
    subst hcs
    have hd : d = .slice (lits .u64 (zs.take len)) (lits .u64 (zs.drop len)) := (congrArg Prod.fst hx)
    have hp : p = MemPlace.row x zs.length := (congrArg Prod.snd hx)
    have hzc : zs.length = cap := by simpa using hz
    have hb := hsz _ _ hd
    rw [bytesL] at hb
    simp [lits] at hb
    have hb2 : zs.length * 8 ≤ 140737488351232 := by
      unfold reachBytes at hb
      have e : min len zs.length + (zs.length - len) = zs.length := by omega
      rw [e] at hb; omega
    have hlen : ((zs.take len).map Int.toNat).length = len := by simp; omega
    refine ⟨some x, cap, (zs.take len).map Int.toNat, by rw [hlen], ⟨?_, ?_, by rw [hlen]; omega, by rw [hlen]; exact hl, hm, fun e => by cases e⟩⟩
    · by_cases h0 : len = 0
      · exact .inl (by rw [hlen]; exact h0)
      · obtain ⟨b, off, rfl, hc⟩ := ints_at hcell (by omega)
        refine .inr ⟨b, off, rfl, ?_, fun i hi => ?_⟩
        · have := hc 0 (by omega)
          exact World.block_lt_of_cell? W _ this
        · rw [hlen] at hi
          rw [hc i (by omega)]
          have hmem : zs.getD i 0 ∈ zs := by rw [List.getD_eq_getElem?_getD, List.getElem?_eq_getElem (by omega)]; exact List.getElem_mem _
          have hbd := bounds_u64 (hwz _ hmem)
          have e : at0 ((zs.take len).map Int.toNat) i = (zs.getD i 0).toNat := by
            unfold at0
            rw [List.getD_eq_getElem?_getD, List.getElem?_map, List.getElem?_take_of_lt hi, List.getD_eq_getElem?_getD, List.getElem?_eq_getElem (by omega)]; rfl
          rw [e, Int.toNat_of_nonneg hbd.1]
    · intro z hz
      obtain ⟨y, hy, rfl⟩ := List.mem_map.1 hz
      have hbd := bounds_u64 (hwz y (List.mem_of_mem_take hy))
      unfold W64; omega

theorem open_ses {fuel : Nat} {v : Value} {d : DataW H} {p : List MemPlace} (h : DataW.trod enc Try.prog W 0 (fun _ => true) true fuel 42 [v] = some (d, p))
    (hsz : ∀ el sp, d = .slice el sp → (el.length + sp.length) * Try.prog.bytesOf 3 ≤ reachBytes) :
    ∃ (c : Option Addr) (k cc : Nat) (S : Nat → Int), v = .slice c k cc ∧ RowZ W c k S ∧ 8 * k ≤ 140737488355328 ∧ (c = none → k = 0 ∧ cc = 0) := by
  rcases open_ints Try.underlying42 Try.underlying3 cellsI h with ⟨hcs, hx⟩ | ⟨x, len, cap, zs, hcs, _, hl, hm, hz, hx, hcell, hwz⟩
  · simp at hcs
    subst hcs
    exact ⟨none, 0, 0, fun _ => 0, rfl, .inl rfl, by omega, fun _ => ⟨rfl, rfl⟩⟩
  · simp at hcs
    subst hcs
    have hd : d = .slice (lits .i64 (zs.take len)) (lits .i64 (zs.drop len)) := (congrArg Prod.fst hx)
    have hzc : zs.length = cap := by simpa using hz
    have hb := hsz _ _ hd
    rw [bytesI] at hb
    simp [lits] at hb
    have hb2 : zs.length * 8 ≤ 140737488355328 := by
      unfold reachBytes at hb
      have e : min len zs.length + (zs.length - len) = zs.length := by omega
      rw [e] at hb; omega
    refine ⟨some x, len, cap, fun i => zs.getD i 0, rfl, ?_, by omega, fun e => by cases e⟩
    by_cases h0 : len = 0
    · exact .inl h0
    · obtain ⟨b, off, rfl, hc⟩ := ints_at hcell (by omega)
      refine .inr ⟨b, off, rfl, ?_, fun i hi => hc i (by omega)⟩
      have := hc 0 (by omega)
      exact World.block_lt_of_cell? W _ this

theorem one_int {n : Nat} {cs : List Value} {y : Option (DataW H × List MemPlace)} {j : Nat} (hj : DataW.trod enc Try.prog W 0 (fun _ => true) true n 3 ((cs.drop j).take (Try.prog.cellsOf 3)) = y) (hy : y.isSome = true) : ∃ m : Int, cs[j]? = some (.int .i64 m) := by
  rw [cellsI] at hj
  obtain ⟨x, rfl⟩ := Option.isSome_iff_exists.1 hy
  obtain ⟨m, hm, _⟩ := DataW.trod_int Try.underlying3 hj
  refine ⟨m, ?_⟩
  have h0 : ((cs.drop j).take 1)[0]? = some (.int .i64 m) := by rw [hm]; rfl
  rw [List.getElem?_take_of_lt (by omega), List.getElem?_drop] at h0
  simpa using h0

set_option maxRecDepth 100000 in
theorem acc_cells {n : Nat} {cs : List Value} {x : DataW H × List MemPlace} (h : DataW.trod enc Try.prog W 0 (fun _ => true) true n 50 cs = some x) : ∀ j, j < 5 → ∃ m : Int, cs[j]? = some (.int .i64 m) := by
  obtain ⟨xs, q, _, _, _, hxl, hf⟩ := DataW.trod_struct Try.underlying50 h
  have hx5 : xs.length = 5 := hxl
  intro j hj
  match j, hj with
  | 0, _ => exact one_int (hf 0 _ rfl) (by rw [List.getElem?_eq_getElem (by omega)]; rfl)
  | 1, _ => exact one_int (hf 1 _ rfl) (by rw [List.getElem?_eq_getElem (by omega)]; rfl)
  | 2, _ => exact one_int (hf 2 _ rfl) (by rw [List.getElem?_eq_getElem (by omega)]; rfl)
  | 3, _ => exact one_int (hf 3 _ rfl) (by rw [List.getElem?_eq_getElem (by omega)]; rfl)
  | 4, _ => exact one_int (hf 4 _ rfl) (by rw [List.getElem?_eq_getElem (by omega)]; rfl)

theorem open_acc {fuel : Nat} {v : Value} {d : DataW H} {p : List MemPlace} (h : DataW.trod enc Try.prog W 0 (fun _ => true) true fuel 41 [v] = some (d, p))
    (hsz : ∀ el sp, d = .slice el sp → (el.length + sp.length) * Try.prog.bytesOf 50 ≤ reachBytes) :
    ∃ (b : Option Addr) (n cb : Nat) (A : Nat → Nat → Int), v = .slice b n cb ∧ RowA W b n A ∧ 40 * n ≤ 140737488355328 := by
  rcases open_slice Try.underlying41 h with ⟨hcs, hx⟩ | ⟨a, len, cap, m, n, D, Pl, hcs, _, hl, _, hm, hx, hall⟩
  · simp at hcs
    subst hcs
    exact ⟨none, 0, 0, fun _ _ => 0, rfl, .inl rfl, by omega⟩
  · simp at hcs
    subst hcs
    have hd := congrArg Prod.fst hx
    have hb := hsz _ _ hd
    rw [bytesA] at hb
    simp at hb
    have hmc : m = cap := by simpa using hm
    have hb2 : len * 40 ≤ 140737488355328 := by unfold reachBytes at hb; omega
    rw [cellsA] at hall
    have each : ∀ i, i < len → ∀ j, j < 5 → ∃ q : Int, W.cell? (a.add (i * 5 + j)) = some (.int .i64 q) := fun i hi j hj => by
      obtain ⟨cs', h1, h2⟩ := hall i (by omega)
      obtain ⟨_, _, hc⟩ := World.cells?_some h1
      obtain ⟨q, hq⟩ := acc_cells h2 j hj
      refine ⟨q, ?_⟩
      rw [← hq, ← hc j hj, add_add]
    refine ⟨some a, len, cap, fun i j => intOf ((W.cell? (a.add (i * 5 + j))).getD (.int .i64 0)), rfl, ?_, by omega⟩
    by_cases h0 : len = 0
    · exact .inl h0
    · obtain ⟨bk, off, spot⟩ := a
      have hspot : spot = none := by
        obtain ⟨q, hq⟩ := each 0 (by omega) 0 (by omega)
        simpa [Addr.add] using World.cell?_spot hq
      subst hspot
      refine .inr ⟨bk, off, rfl, ?_, fun i hi j hj => ?_⟩
      · obtain ⟨q, hq⟩ := each 0 (by omega) 0 (by omega)
        exact World.block_lt_of_cell? W _ hq
      · obtain ⟨q, hq⟩ := each i hi j hj
        have e : (⟨bk, off + i * 5 + j, none⟩ : Addr) = (⟨bk, off, none⟩ : Addr).add (i * 5 + j) := by rw [Addr.add_lit, Nat.add_assoc]
        simp only [e, hq]
        rfl

end

end Go.Proofs.Ytoindigckfajlab
