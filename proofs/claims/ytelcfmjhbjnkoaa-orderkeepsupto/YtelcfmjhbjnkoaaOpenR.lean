/- Opening a law's argument that is an item by its bits, or a list of such. -/
import Derived.Test.YtelcfmjhbjnkoaaOw16
import Derived.Test.YtelcfmjhbjnkoaaOpenW
import Derived.Test.YtelcfmjhbjnkoaaBulk
import Derived.Lib.SmallJoins
import Derived.Deep.Slices
namespace Go.Proofs.Ytelcfmjhbjnkoaa
open Go.ChangeShapes Go.WideShapes Go.ChangeAt Go.RowKit Go.Joins Go.Deep

theorem cellsInt : Try.prog.cellsOf 3 = 1 := by kernel_rfl
theorem cellsBool : Try.prog.cellsOf 4 = 1 := by kernel_rfl
theorem cellsInt64 : Try.prog.cellsOf 2 = 1 := by kernel_rfl
theorem cellsU64 : Try.prog.cellsOf 37 = 1 := by kernel_rfl
theorem cellsStr : Try.prog.cellsOf 9 = 1 := by kernel_rfl
theorem cellsRaw : Try.prog.cellsOf 39 = 7 := by kernel_rfl
theorem bytesRaw : Try.prog.bytesOf 39 = 64 := by kernel_rfl

theorem bounds_w64 {n : Int} (h : (Lit.int .u64 n).wf = true) : ∃ m : Nat, n = (m : Int) ∧ m < 18446744073709551616 := by
  have := bounds_u64 h
  exact ⟨n.toNat, by omega, by omega⟩

/-- What is known of the text of an item that came in, by its reading. -/
def TextAt {H : Type} (d : DataW H) (t : ByteArray) : Prop := ∃ ps, d = .agg ps ∧ ps[6]? = some (.lit (.string t.data.toList))

theorem text_fits {H : Type} {d : DataW H} {t : ByteArray} (h : TextAt d t) (hb : Fits Try.prog 39 d) : t.size ≤ 140737488351232 := by
  obtain ⟨ps, rfl, h6⟩ := h
  have hf : Fits Try.prog 9 (.lit (.string t.data.toList) : DataW H) := fits_field (j := 6) hb Try.underlying39 rfl h6
  have := hf t.data.toList.length (by simp [DataW.weights])
  unfold reachBytes at this
  have e : t.data.toList.length = t.size := by rw [Array.length_toList]; rfl
  omega
theorem text_bulk {H : Type} {d : DataW H} {t : ByteArray} (h : TextAt d t) (hb : Rows.uptoBulk d ≤ 1048576) : t.size ≤ 1048576 := by
  obtain ⟨ps, rfl, h6⟩ := h
  have h1 := bulk_mem (List.mem_of_getElem? h6)
  simp only [Rows.uptoBulk] at h1 hb
  have e : t.data.toList.length = t.size := by rw [Array.length_toList]; rfl
  omega

section
variable {H : Type} {enc : TypeId × Value → H} {W : World}

set_option maxRecDepth 100000 in
theorem open_raw {n : Nat} {cs : List Value} {x : DataW H × List MemPlace} (h : DataW.trod enc Try.prog W 0 (fun _ => true) true n 39 cs = some x) :
    ∃ y : It, cs = [.int .i64 y.k, .bool y.b, .int .i64 y.n, .int .u64 (y.f : Int), .int .u64 (y.r : Int), .int .u64 (y.i : Int), .string y.t] ∧ ItOk y ∧ TextAt x.1 y.t := by
  obtain ⟨xs, q, _, rfl, hl, hxl, hf⟩ := DataW.trod_struct Try.underlying39 h
  have hx7 : xs.length = 7 := hxl
  rw [cellsRaw] at hl
  match xs, hx7 with
  | [y0, y1, y2, y3, y4, y5, y6], _ =>
    have f0 : DataW.trod enc Try.prog W 0 (fun _ => true) true q 3 ((cs.drop 0).take (Try.prog.cellsOf 3)) = some y0 := hf 0 _ rfl
    have f1 : DataW.trod enc Try.prog W 0 (fun _ => true) true q 4 ((cs.drop 1).take (Try.prog.cellsOf 4)) = some y1 := hf 1 _ rfl
    have f2 : DataW.trod enc Try.prog W 0 (fun _ => true) true q 2 ((cs.drop 2).take (Try.prog.cellsOf 2)) = some y2 := hf 2 _ rfl
    have f3 : DataW.trod enc Try.prog W 0 (fun _ => true) true q 37 ((cs.drop 3).take (Try.prog.cellsOf 37)) = some y3 := hf 3 _ rfl
    have f4 : DataW.trod enc Try.prog W 0 (fun _ => true) true q 37 ((cs.drop 4).take (Try.prog.cellsOf 37)) = some y4 := hf 4 _ rfl
    have f5 : DataW.trod enc Try.prog W 0 (fun _ => true) true q 37 ((cs.drop 5).take (Try.prog.cellsOf 37)) = some y5 := hf 5 _ rfl
    have f6 : DataW.trod enc Try.prog W 0 (fun _ => true) true q 9 ((cs.drop 6).take (Try.prog.cellsOf 9)) = some y6 := hf 6 _ rfl
    rw [cellsInt] at f0
    rw [cellsBool] at f1
    rw [cellsInt64] at f2
    rw [cellsU64] at f3 f4 f5
    rw [cellsStr] at f6
    obtain ⟨k, hk, _, hwk⟩ := DataW.trod_int Try.underlying3 f0
    obtain ⟨b, hbb, _⟩ := DataW.trod_bool Try.underlying4 f1
    obtain ⟨m, hm, _, hwm⟩ := DataW.trod_int Try.underlying2 f2
    obtain ⟨f', hf', _, hwf⟩ := DataW.trod_int Try.underlying37 f3
    obtain ⟨r', hr', _, hwr⟩ := DataW.trod_int Try.underlying37 f4
    obtain ⟨i', hi', _, hwi⟩ := DataW.trod_int Try.underlying37 f5
    obtain ⟨t, ht, hx6, _⟩ := DataW.trod_string Try.underlying9 f6
    obtain ⟨f, rfl, hfl⟩ := bounds_w64 hwf
    obtain ⟨r, rfl, hrl⟩ := bounds_w64 hwr
    obtain ⟨i, rfl, hil⟩ := bounds_w64 hwi
    refine ⟨⟨k, b, m, f, r, i, t⟩, ?_, ⟨(bounds_i64 hwk).1, (bounds_i64 hwk).2, (bounds_i64 hwm).1, (bounds_i64 hwm).2, hfl, hrl, hil⟩, ⟨_, rfl, ?_⟩⟩
    · match cs, hl with
      | [a0, a1, a2, a3, a4, a5, a6], _ =>
        simp at hk hbb hm hf' hr' hi' ht
        simp [hk, hbb, hm, hf', hr', hi', ht]
    · rw [hx6]; rfl

set_option maxRecDepth 100000 in
/-- An item that came in. -/
theorem open_raw1 {base : Nat} {v : Value} {d : DataW H} {p : List MemPlace} (hok : Value.okWide Try.prog W .any base 39 v) (h : DataW.Trod enc Try.prog W 0 (fun _ => true) true 39 v d p) :
    ∃ y : It, v = valR y ∧ ItOk y ∧ TextAt d y.t := by
  obtain ⟨cs, rfl, _⟩ := okWide_struct Try.underlying39 hok
  obtain ⟨fuel, hf⟩ := h
  obtain ⟨y, hy, h2, h3⟩ := open_raw hf
  refine ⟨y, ?_, h2, h3⟩
  have e : cs.toList = [.int .i64 y.k, .bool y.b, .int .i64 y.n, .int .u64 (y.f : Int), .int .u64 (y.r : Int), .int .u64 (y.i : Int), .string y.t] := hy
  show Value.agg cs = valR y
  unfold valR
  congr 1
  apply Array.toList_inj.1
  exact e

set_option maxRecDepth 100000 in
/-- A list of items that came in. -/
theorem open_raws {base L S : Nat} {v : Value} {d : DataW H} {p : List MemPlace} (hok : Value.okWide Try.prog W .any base 22 v) (h : DataW.Trod enc Try.prog W 0 (fun _ => true) true 22 v d p)
    (hL : ∀ el sp, d = .slice el sp → el.length ≤ L) (hS : ∀ el sp, d = .slice el sp → ∀ e ∈ el, ∀ t, TextAt e t → t.size ≤ S) :
    ∃ (a : Option Addr) (cap : Nat) (xs : List It), v = .slice a xs.length cap ∧ RowR W a xs ∧ xs.length ≤ L ∧ ∀ x ∈ xs, ItOk x ∧ x.t.size ≤ S := by
  obtain ⟨a0, len0, cap0, rfl⟩ := okWide_slice Try.underlying22 hok
  obtain ⟨fuel, hf⟩ := h
  rcases open_slice Try.underlying22 hf with ⟨hcs, hx⟩ | ⟨a, len, cap, m, n, D, Pl, hcs, _, hl, _, hm, hx, hall⟩
  · simp [Value.cells] at hcs
    obtain ⟨rfl, rfl, rfl⟩ := hcs
    exact ⟨none, 0, [], rfl, .inl rfl, by simp, fun x hx => (by cases hx)⟩
  · simp [Value.cells] at hcs
    obtain ⟨rfl, rfl, rfl⟩ := hcs
    have hd := congrArg Prod.fst hx
    simp only at hd
    subst hd
    have hL2 := hL _ _ rfl
    have hS2 := hS _ _ rfl
    simp only [List.length_map, List.length_range] at hL2
    have hmc : m = cap0 := by simpa using hm
    rw [cellsRaw] at hall
    have each : ∀ i, ∃ t : It, i < len0 → ∃ cs', W.cells? 0 (a.add (i * 7)) 7 = some cs' ∧ cs' = [.int .i64 t.k, .bool t.b, .int .i64 t.n, .int .u64 (t.f : Int), .int .u64 (t.r : Int), .int .u64 (t.i : Int), .string t.t] ∧ ItOk t ∧ t.t.size ≤ S := fun i => by
      by_cases hi : i < len0
      · obtain ⟨cs', h1, h2⟩ := hall i (by omega)
        have hmem : D i ∈ (List.range len0).map D := List.mem_map.2 ⟨i, List.mem_range.2 hi, rfl⟩
        obtain ⟨t, ht, hok', hta⟩ := open_raw h2
        exact ⟨t, fun _ => ⟨cs', h1, ht, hok', hS2 (D i) hmem t.t hta⟩⟩
      · exact ⟨it0 0, fun h => absurd h hi⟩
    obtain ⟨T, hT⟩ : ∃ T : Nat → It, ∀ i, i < len0 → ∃ cs', W.cells? 0 (a.add (i * 7)) 7 = some cs' ∧ cs' = [.int .i64 (T i).k, .bool (T i).b, .int .i64 (T i).n, .int .u64 ((T i).f : Int), .int .u64 ((T i).r : Int), .int .u64 ((T i).i : Int), .string (T i).t] ∧ ItOk (T i) ∧ (T i).t.size ≤ S := ⟨fun i => (each i).choose, fun i hi => (each i).choose_spec hi⟩
    clear each
    have hcell : ∀ i, i < len0 → ∀ j, j < 7 → W.cell? (a.add (i * 7 + j)) = [Value.int .i64 (T i).k, .bool (T i).b, .int .i64 (T i).n, .int .u64 ((T i).f : Int), .int .u64 ((T i).r : Int), .int .u64 ((T i).i : Int), .string (T i).t][j]? := fun i hi j hj => by
      obtain ⟨cs', h1, h2, _⟩ := hT i hi
      obtain ⟨_, _, hc⟩ := World.cells?_some h1
      rw [← h2, ← hc j hj, add_add]
    have hlen : ((List.range len0).map T).length = len0 := by simp
    refine ⟨some a, cap0, (List.range len0).map T, by rw [hlen], ?_, by rw [hlen]; exact hL2, fun x hx => ?_⟩
    · by_cases h0 : len0 = 0
      · exact .inl (by rw [hlen]; exact h0)
      · obtain ⟨bk, off, spot⟩ := a
        have hspot : spot = none := by
          have q := hcell 0 (by omega) 0 (by omega)
          simpa [Addr.add] using World.cell?_spot q
        subst hspot
        refine .inr ⟨bk, off, rfl, ?_, fun i hi => ?_⟩
        · have q := hcell 0 (by omega) 0 (by omega)
          exact World.block_lt_of_cell? W _ q
        · rw [hlen] at hi
          have key : ∀ j, j < 7 → W.cell? ⟨bk, off + i * 7 + j, none⟩ = [Value.int .i64 (T i).k, .bool (T i).b, .int .i64 (T i).n, .int .u64 ((T i).f : Int), .int .u64 ((T i).r : Int), .int .u64 ((T i).i : Int), .string (T i).t][j]? := fun j hj => by
            have q := hcell i hi j hj
            rw [Addr.add_lit, ← Nat.add_assoc] at q
            exact q
          have e : ((List.range len0).map T)[i]'(by rw [hlen]; exact hi) = T i := by simp
          rw [e]
          exact ⟨key 0 (by omega), key 1 (by omega), key 2 (by omega), key 3 (by omega), key 4 (by omega), key 5 (by omega), key 6 (by omega)⟩
    · obtain ⟨i, hi, rfl⟩ := List.mem_map.1 hx
      obtain ⟨_, _, _, h4⟩ := hT i (List.mem_range.1 hi)
      exact h4

set_option maxRecDepth 100000 in
theorem raws_len {el sp : List (DataW H)} (hb : Fits Try.prog 22 (.slice el sp)) : el.length ≤ 2199023255488 := by
  have := fits_len hb Try.underlying22
  rw [bytesRaw] at this
  unfold reachBytes at this
  omega
set_option maxRecDepth 100000 in
/-- Of whatever size. -/
theorem open_raws_said {base : Nat} {v : Value} {d : DataW H} {p : List MemPlace} (hok : Value.okWide Try.prog W .any base 22 v) (h : DataW.Trod enc Try.prog W 0 (fun _ => true) true 22 v d p) (hb : Fits Try.prog 22 d) :
    ∃ (a : Option Addr) (cap : Nat) (xs : List It), v = .slice a xs.length cap ∧ RowR W a xs ∧ xs.length ≤ 2199023255488 ∧ ∀ x ∈ xs, ItOk x ∧ x.t.size ≤ 140737488351232 :=
  open_raws hok h (fun el sp e => by subst e; exact raws_len hb) (fun el sp e x hx t ht => by subst e; exact text_fits ht (fits_elem hb Try.underlying22 hx))
set_option maxRecDepth 100000 in
/-- Of a bounded bulk. -/
theorem open_raws_upto {base : Nat} {v : Value} {d : DataW H} {p : List MemPlace} (hok : Value.okWide Try.prog W .any base 22 v) (h : DataW.Trod enc Try.prog W 0 (fun _ => true) true 22 v d p) (hb : Rows.uptoBulk d ≤ 1048576) :
    ∃ (a : Option Addr) (cap : Nat) (xs : List It), v = .slice a xs.length cap ∧ RowR W a xs ∧ xs.length ≤ 1048576 ∧ ∀ x ∈ xs, ItOk x ∧ x.t.size ≤ 1048576 := by
  refine open_raws hok h (fun el sp e => ?_) (fun el sp e x hx t ht => ?_)
  · subst e
    have := bulk_len el
    simp only [Rows.uptoBulk] at hb
    omega
  · subst e
    have := bulk_mem hx
    simp only [Rows.uptoBulk] at hb
    exact text_bulk ht (by omega)
end
end Go.Proofs.Ytelcfmjhbjnkoaa
