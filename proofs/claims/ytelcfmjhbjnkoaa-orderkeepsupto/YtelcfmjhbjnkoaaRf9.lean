/- The document's answer: an item taken off a text. -/
import Derived.Test.YtelcfmjhbjnkoaaRf8
import Derived.Test.YtelcfmjhbjnkoaaRf4
import Derived.Laws.ResultCell
namespace Go.Proofs.Ytelcfmjhbjnkoaa
open Go.RowKit

theorem ret_doc2 {fn : Func} {p u : Tmp} (h : fn.results = #[.cell p 57, .tmp u]) (tmps : Array Value) (w : World) (g : Nat) (x : It) (v : Value) (hp : tmps.getD p undef = .pointer (some ⟨g, 0, none⟩)) (hv : tmps.getD u undef = v) (hb : DocB w g x) :
    (results fn tmps).run Try.prog w = .ok (.tuple #[valR x, v]) w := by
  have hp' : tmps[p]?.getD undef = .pointer (some ⟨g, 0, none⟩) := by simpa using hp
  have hv' : tmps[u]?.getD undef = v := by simpa using hv
  rw [results_cell_tmp h]
  simp [hp', hv', asAddr, Result.andThen, run_loadVar_row w g 57 57 _ (0, 0) _ hb Try.underlying57 rfl (by kernel_rfl)]
theorem DocB.all {w : World} {g : Nat} {y : It} (h : DocB w g y) (x : It) :
    DocB (((((((w.setCell ⟨g, 0, none⟩ (.int .i64 x.k)).setCell ⟨g, 1, none⟩ (.bool x.b)).setCell ⟨g, 2, none⟩ (.int .i64 x.n)).setCell ⟨g, 3, none⟩ (.int .u64 (x.f : Int))).setCell ⟨g, 4, none⟩ (.int .u64 (x.r : Int))).setCell ⟨g, 5, none⟩ (.int .u64 (x.i : Int))).setCell ⟨g, 6, none⟩ (.string x.t)) g x := by
  have h0 : (w.setCell ⟨g, 0, none⟩ (.int .i64 x.k)).heap[g]? = some (.cells #[.int .i64 x.k, .bool y.b, .int .i64 y.n, .int .u64 (y.f : Int), .int .u64 (y.r : Int), .int .u64 (y.i : Int), .string y.t] 57 (0, 0)) := heap_setCell_same _ g 0 _ _ _ h
  have h1 : ((w.setCell ⟨g, 0, none⟩ (.int .i64 x.k)).setCell ⟨g, 1, none⟩ (.bool x.b)).heap[g]? = some (.cells #[.int .i64 x.k, .bool x.b, .int .i64 y.n, .int .u64 (y.f : Int), .int .u64 (y.r : Int), .int .u64 (y.i : Int), .string y.t] 57 (0, 0)) := heap_setCell_same _ g 1 _ _ _ h0
  have h2 : (((w.setCell ⟨g, 0, none⟩ (.int .i64 x.k)).setCell ⟨g, 1, none⟩ (.bool x.b)).setCell ⟨g, 2, none⟩ (.int .i64 x.n)).heap[g]? = some (.cells #[.int .i64 x.k, .bool x.b, .int .i64 x.n, .int .u64 (y.f : Int), .int .u64 (y.r : Int), .int .u64 (y.i : Int), .string y.t] 57 (0, 0)) := heap_setCell_same _ g 2 _ _ _ h1
  have h3 : ((((w.setCell ⟨g, 0, none⟩ (.int .i64 x.k)).setCell ⟨g, 1, none⟩ (.bool x.b)).setCell ⟨g, 2, none⟩ (.int .i64 x.n)).setCell ⟨g, 3, none⟩ (.int .u64 (x.f : Int))).heap[g]? = some (.cells #[.int .i64 x.k, .bool x.b, .int .i64 x.n, .int .u64 (x.f : Int), .int .u64 (y.r : Int), .int .u64 (y.i : Int), .string y.t] 57 (0, 0)) := heap_setCell_same _ g 3 _ _ _ h2
  have h4 : (((((w.setCell ⟨g, 0, none⟩ (.int .i64 x.k)).setCell ⟨g, 1, none⟩ (.bool x.b)).setCell ⟨g, 2, none⟩ (.int .i64 x.n)).setCell ⟨g, 3, none⟩ (.int .u64 (x.f : Int))).setCell ⟨g, 4, none⟩ (.int .u64 (x.r : Int))).heap[g]? = some (.cells #[.int .i64 x.k, .bool x.b, .int .i64 x.n, .int .u64 (x.f : Int), .int .u64 (x.r : Int), .int .u64 (y.i : Int), .string y.t] 57 (0, 0)) := heap_setCell_same _ g 4 _ _ _ h3
  have h5 : ((((((w.setCell ⟨g, 0, none⟩ (.int .i64 x.k)).setCell ⟨g, 1, none⟩ (.bool x.b)).setCell ⟨g, 2, none⟩ (.int .i64 x.n)).setCell ⟨g, 3, none⟩ (.int .u64 (x.f : Int))).setCell ⟨g, 4, none⟩ (.int .u64 (x.r : Int))).setCell ⟨g, 5, none⟩ (.int .u64 (x.i : Int))).heap[g]? = some (.cells #[.int .i64 x.k, .bool x.b, .int .i64 x.n, .int .u64 (x.f : Int), .int .u64 (x.r : Int), .int .u64 (x.i : Int), .string y.t] 57 (0, 0)) := heap_setCell_same _ g 5 _ _ _ h4
  exact heap_setCell_same _ g 6 _ _ _ h5
theorem DocB.far {w : World} {g p : Nat} {x : It} (h : DocB w g x) (hp : g ≠ p) (j : Nat) (u : Value) : DocB (w.setCell ⟨p, j, none⟩ u) g x := by
  unfold DocB; rw [Below.heap_setCell _ _ _ _ hp]; exact h
theorem below_docs {w w1 : World} {B g : Nat} (h : Below B w w1) (hg : B ≤ g) (v0 v1 v2 v3 v4 v5 v6 : Value) :
    Below B w (((((((w1.setCell ⟨g, 0, none⟩ v0).setCell ⟨g, 1, none⟩ v1).setCell ⟨g, 2, none⟩ v2).setCell ⟨g, 3, none⟩ v3).setCell ⟨g, 4, none⟩ v4).setCell ⟨g, 5, none⟩ v5).setCell ⟨g, 6, none⟩ v6) :=
  ((((((h.setCell hg _).setCell hg _).setCell hg _).setCell hg _).setCell hg _).setCell hg _).setCell hg _

/-- What one answers, of what is left behind the item. -/
def oneRes (n : Nat) : Option (It × List Nat) → Value
  | none => .tuple #[valR (it0 0), .int .i64 (-1)]
  | some (x, t) => .tuple #[valR x, .int .i64 ((n : Int) - (t.length : Int))]
theorem takeW_num (l : List Nat) : takeW l = if (numRes l).2 then some ((numRes l).1, l.drop 8) else none := by
  unfold takeW numRes
  by_cases h : l.length < 8
  · rw [if_pos h, if_pos h]; rfl
  · rw [if_neg h, if_neg h]; rfl
theorem numRes_lt {l : List Nat} (h8 : All8 l) : (numRes l).1 < 18446744073709551616 := by
  unfold numRes
  by_cases h : l.length < 8
  · rw [if_pos h]; decide
  · rw [if_neg h]
    have := beVal_bound (h8.take 8)
    have e : (l.take 8).length = 8 := by simp; omega
    rw [e] at this
    exact this
theorem numRes_ok {l : List Nat} (h : (numRes l).2 = true) : 8 ≤ l.length := by
  unfold numRes at h
  by_cases g : l.length < 8
  · rw [if_pos g] at h; cases h
  · omega
theorem takeN_num {l : List Nat} (h8 : All8 l) : takeN l = if ((numRes l).2 && decide (cb (unr (numRes l).1) = unr (numRes l).1)) then some (unr (numRes l).1, l.drop 8) else none := by
  have hv := numRes_lt h8
  unfold takeN
  rw [takeW_num]
  cases (numRes l).2 with
  | false => rfl
  | true =>
    simp only [if_true, Bool.true_and, decide_eq_true_eq]
    by_cases h : cb (unr (numRes l).1) = unr (numRes l).1
    · rw [if_pos h, if_pos (rise_unr hv h)]
    · rw [if_neg h, if_neg (fun e => h (cb_of_rise hv e))]
theorem fstD (w : World) (x : It) (o : Obj) : DocB ((w.alloc (.cells #[.int .i64 x.k, .bool x.b, .int .i64 x.n, .int .u64 (x.f : Int), .int .u64 (x.r : Int), .int .u64 (x.i : Int), .string x.t] 57)).alloc o) w.heap.size x :=
  (DocB.new w x).below ((Below.refl _ _).alloc (Nat.le_refl _) _) (by simp)
theorem pair_below (w : World) (o1 o2 : Obj) : Below w.heap.size w ((w.alloc o1).alloc o2) := ((Below.refl _ _).alloc (Nat.le_refl _) _).alloc (by simp) _
/-- The worlds of one's two items. -/
def wrl (w : World) (z : Int) : World := (w.alloc (.cells #[.int .i64 0, .bool false, .int .i64 0, .int .u64 0, .int .u64 0, .int .u64 0, .string ByteArray.empty] 57)).alloc (.cells #[.int .i64 z, .bool false, .int .i64 0, .int .u64 0, .int .u64 0, .int .u64 0, .string ByteArray.empty] 57)
theorem wrl0 (w : World) (z : Int) : DocB (wrl w z) w.heap.size (it0 0) :=
  (DocB.new w (it0 0)).below ((Below.refl _ _).alloc (Nat.le_refl _) _) (by simp)
theorem wrl1 (w : World) (z : Int) : DocB (wrl w z) (w.heap.size + 1) (it0 z) := heap_alloc2_new w _ _
theorem wrlb (w : World) (z : Int) : Below w.heap.size w (wrl w z) := ((Below.refl _ _).alloc (Nat.le_refl _) _).alloc (by simp) _

/-- What one answers of a text. -/
def txtRes (n : Nat) : Option (List Nat × List Nat) → Value
  | none => .tuple #[valR (it0 0), .int .i64 (-1)]
  | some (p, t) => .tuple #[valR { it0 6 with t := strOf p }, .int .i64 ((n : Int) - (t.length : Int))]
theorem len_at {s : ByteArray} {k j : Nat} (h : k + j ≤ s.size) : ((s.size : Int) - ((((strNat s).drop k).drop j).length : Int)) = (k : Int) + (j : Int) := by
  have hsl : (strNat s).length = s.size := strNat_len s
  simp only [List.length_drop]; omega
set_option maxRecDepth 100000 in
set_option maxHeartbeats 1000000 in
theorem one_none (s : ByteArray) (k : Nat) (w : World) (hk : k < s.size) (hl : s.size ≤ 140737488351232) (hz : at0 (strNat s) k = 1) :
    Calls Try.prog 22 #[.string s, .int .i64 (k : Int)] w fun e w' => e = .returned (oneRes s.size (takeB 1 ((strNat s).drop (k + 1)))) ∧ Below w.heap.size w w' := by
  have hsl : (strNat s).length = s.size := strNat_len s
  have hix := str_at (s := s) hk
  rw [hz] at hix
  clear hz
  have hf : oneRes s.size (takeB 1 ((strNat s).drop (k + 1))) = .tuple #[valR (it0 1), .int .i64 ((k : Int) + 1)] := by
    have := len_at (s := s) (k := k + 1) (j := 0) (by omega)
    unfold takeB; simp only [if_true, oneRes]
    simp only [List.drop_zero] at this
    rw [this]; simp
  rw [hf]
  clear hf
  go_enter Try.func22, Try.ntmps22
  go_wp2_with fail
  refine bodyPost_ret (ret_doc2 rfl _ _ w.heap.size (it0 1) _ rfl rfl (fstD w (it0 1) _)) rfl ?_
  exact ⟨rfl, pair_below _ _ _⟩

set_option maxRecDepth 100000 in
set_option maxHeartbeats 1000000 in
theorem one_bool (s : ByteArray) (k : Nat) (w : World) (hk : k < s.size) (hl : s.size ≤ 140737488351232) (hz : at0 (strNat s) k = 2) :
    Calls Try.prog 22 #[.string s, .int .i64 (k : Int)] w fun e w' => e = .returned (oneRes s.size (takeB 2 ((strNat s).drop (k + 1)))) ∧ Below w.heap.size w w' := by
  have hsl : (strNat s).length = s.size := strNat_len s
  have hix := str_at (s := s) hk
  rw [hz] at hix
  clear hz
  by_cases h2 : k + 1 < s.size
  · have hd2 : decide ((s.size : Int) ≤ (k : Int) + 1) = false := by simp; omega
    have hix2 := str_at (s := s) (k := k + 1) h2
    simp only [Int.natCast_add, Int.natCast_one] at hix2
    have hdr := drop_at (show k + 1 < (strNat s).length by omega)
    have hln := len_at (s := s) (k := k + 1) (j := 1) (by omega)
    have hz8 := (strNat_all s).at (k + 1)
    rw [List.drop_drop] at hln
    rw [hdr]
    generalize at0 (strNat s) (k + 1) = z at *
    clear hdr
    by_cases hz : z ≤ 1
    · have hzz : z = 0 ∨ z = 1 := by omega
      rcases hzz with rfl | rfl
      · have hf : oneRes s.size (takeB 2 (0 :: (strNat s).drop (k + 1 + 1))) = .tuple #[valR (it0 2), .int .i64 ((k : Int) + 1 + 1)] := by
          unfold takeB; simp only [oneRes]
          simp [it0]; omega
        rw [hf]
        clear hf
        go_enter Try.func22, Try.ntmps22
        go_wp2_with fail
        refine bodyPost_ret (ret_doc2 rfl _ _ w.heap.size (it0 2) _ rfl rfl (fstD w (it0 2) _)) rfl ?_
        exact ⟨rfl, pair_below _ _ _⟩
      · have hf : oneRes s.size (takeB 2 (1 :: (strNat s).drop (k + 1 + 1))) = .tuple #[valR { it0 2 with b := true }, .int .i64 ((k : Int) + 1 + 1)] := by
          unfold takeB; simp only [oneRes]
          simp [it0]; omega
        rw [hf]
        clear hf
        go_enter Try.func22, Try.ntmps22
        go_wp2_with fail
        refine bodyPost_ret (ret_doc2 rfl _ _ w.heap.size { it0 2 with b := true } _ rfl rfl (fstD w { it0 2 with b := true } _)) rfl ?_
        exact ⟨rfl, pair_below _ _ _⟩
    · have hf : oneRes s.size (takeB 2 (z :: (strNat s).drop (k + 1 + 1))) = .tuple #[valR (it0 0), .int .i64 (-1)] := by
        unfold takeB; simp only [oneRes]
        simp [hz]
      rw [hf]
      clear hf
      have hd3 : decide ((1 : Int) < (z : Int)) = true := by simp; omega
      go_enter Try.func22, Try.ntmps22
      go_wp2_with fail
      refine bodyPost_ret (ret_doc2 rfl _ _ w.heap.size (it0 0) _ rfl rfl (fstD w (it0 0) _)) rfl ?_
      exact ⟨rfl, pair_below _ _ _⟩
  · have hd2 : decide ((s.size : Int) ≤ (k : Int) + 1) = true := by simp; omega
    have hf : oneRes s.size (takeB 2 ((strNat s).drop (k + 1))) = .tuple #[valR (it0 0), .int .i64 (-1)] := by
      rw [List.drop_eq_nil_of_le (by omega)]; rfl
    rw [hf]
    clear hf
    go_enter Try.func22, Try.ntmps22
    go_wp2_with fail
    refine bodyPost_ret (ret_doc2 rfl _ _ w.heap.size (it0 0) _ rfl rfl (fstD w (it0 0) _)) rfl ?_
    exact ⟨rfl, pair_below _ _ _⟩

set_option maxRecDepth 100000 in
set_option maxHeartbeats 1000000 in
theorem one_int (s : ByteArray) (k : Nat) (w : World) (hk : k < s.size) (hl : s.size ≤ 140737488351232) (hz : at0 (strNat s) k = 3) :
    Calls Try.prog 22 #[.string s, .int .i64 (k : Int)] w fun e w' => e = .returned (oneRes s.size (takeB 3 ((strNat s).drop (k + 1)))) ∧ Below w.heap.size w w' := by
  have hsl : (strNat s).length = s.size := strNat_len s
  have hix := str_at (s := s) hk
  rw [hz] at hix
  clear hz
  have hn := fun w => rnumber_any s (k + 1) w (by omega) hl
  simp only [Int.natCast_add, Int.natCast_one] at hn
  have hv := numRes_lt ((strNat_all s).drop (k + 1))
  have hT := takeW_num ((strNat s).drop (k + 1))
  have hok := numRes_ok (l := (strNat s).drop (k + 1))
  rw [List.length_drop] at hok
  generalize numRes ((strNat s).drop (k + 1)) = N at *
  obtain ⟨v, ok⟩ := N
  simp only at hn hv hT hok
  have hln := fun h => len_at (s := s) (k := k + 1) (j := 8) h
  have hf : oneRes s.size (takeB 3 ((strNat s).drop (k + 1))) = if ok then .tuple #[valR { it0 3 with n := (v : Int) - 9223372036854775808 }, .int .i64 ((k : Int) + 1 + 8)] else .tuple #[valR (it0 0), .int .i64 (-1)] := by
    unfold takeB
    rw [if_neg (by decide), if_neg (by decide), if_pos rfl, hT]
    cases ok with
    | false => rfl
    | true =>
      have := hln (by have := hok rfl; omega)
      simp only [if_true, Option.map_some, oneRes]
      rw [this]
      simp
  rw [hf]
  clear hf hT hln
  obtain ⟨u, hu⟩ : ∃ u, u = IntKind.u64.wrap ((v : Int) - 9223372036854775808) := ⟨_, rfl⟩
  obtain ⟨n, hn'⟩ : ∃ n : Int, n = (v : Int) - 9223372036854775808 := ⟨_, rfl⟩
  have hw2 : IntKind.i64.wrap u = n := by rw [hu, hn']; simp [IntKind.wrap, IntKind.bits, IntKind.signed]; omega
  have hw1 := hu.symm
  rw [← hn']
  have hk9 : ok = true → (k : Int) + 1 + 8 ≤ 140737488351232 := fun h => by have := hok h; omega
  clear hu hn' hok hv
  generalize (v : Int) = vi at *
  cases ok with
  | true =>
    simp only [if_true]
    go_enter Try.func22, Try.ntmps22
    go_wp2_with fail
    refine (hn _).mono ?_
    rintro e w1 ⟨rfl, hq⟩
    have hq2 := hq.symm
    subst hq2
    clear hq
    go_wp2_with fail
    refine bodyPost_ret (ret_doc2 rfl _ _ w.heap.size { it0 3 with n := n } _ rfl rfl (fstD w { it0 3 with n := n } _)) rfl ?_
    exact ⟨rfl, pair_below _ _ _⟩
  | false =>
    simp only [Bool.false_eq_true, if_false]
    go_enter Try.func22, Try.ntmps22
    go_wp2_with fail
    refine (hn _).mono ?_
    rintro e w1 ⟨rfl, hq⟩
    have hq2 := hq.symm
    subst hq2
    clear hq
    go_wp2_with fail
    refine bodyPost_ret (ret_doc2 rfl _ _ w.heap.size (it0 0) _ rfl rfl (fstD w (it0 0) _)) rfl ?_
    exact ⟨rfl, pair_below _ _ _⟩

set_option maxRecDepth 100000 in
set_option maxHeartbeats 1000000 in
theorem one_float (s : ByteArray) (k : Nat) (w : World) (hk : k < s.size) (hl : s.size ≤ 140737488351232) (hz : at0 (strNat s) k = 4) :
    Calls Try.prog 22 #[.string s, .int .i64 (k : Int)] w fun e w' => e = .returned (oneRes s.size (takeB 4 ((strNat s).drop (k + 1)))) ∧ Below w.heap.size w w' := by
  have hsl : (strNat s).length = s.size := strNat_len s
  have hix := str_at (s := s) hk
  rw [hz] at hix
  clear hz
  have hn1 := fun w => rnumber_any s (k + 1) w (by omega) hl
  simp only [Int.natCast_add, Int.natCast_one] at hn1
  have hv1 := numRes_lt ((strNat_all s).drop (k + 1))
  have hT1 := takeN_num ((strNat_all s).drop (k + 1))
  have hok1 := numRes_ok (l := (strNat s).drop (k + 1))
  rw [List.length_drop] at hok1
  generalize numRes ((strNat s).drop (k + 1)) = N at *
  obtain ⟨v1, ok1⟩ := N
  simp only at hn1 hv1 hT1 hok1
  have hu1 := fun w => runfloat_any v1 ok1 w hv1
  have hg1 : (ok1 && decide (cb (unr v1) = unr v1)) = true → k + 9 ≤ s.size := fun h => by
    have := hok1 (Bool.and_eq_true_iff.1 h).1
    omega
  generalize (ok1 && decide (cb (unr v1) = unr v1)) = g1 at *
  generalize unr v1 = f1 at *
  clear hok1 hv1
  generalize (v1 : Int) = vi1 at *
  have hln := fun h => len_at (s := s) (k := k + 1) (j := 8) h
  have hf : oneRes s.size (takeB 4 ((strNat s).drop (k + 1))) = if g1 then .tuple #[valR { it0 4 with f := f1 }, .int .i64 ((k : Int) + 1 + 8)] else .tuple #[valR (it0 0), .int .i64 (-1)] := by
    unfold takeB
    rw [if_neg (by decide), if_neg (by decide), if_neg (by decide), if_pos rfl, hT1]
    cases g1 with
    | false => rfl
    | true =>
      have := hln (by have := hg1 rfl; omega)
      simp only [if_true, Option.map_some, oneRes]
      rw [this]
      simp
  rw [hf]
  clear hf hT1 hln hg1
  cases g1 with
  | true =>
    simp only [if_true]
    go_enter Try.func22, Try.ntmps22
    go_wp2_with fail
    refine (hn1 _).mono ?_
    rintro e w1 ⟨rfl, hq⟩
    have hq2 := hq.symm
    subst hq2
    clear hq
    go_wp2_with fail
    refine (hu1 _).mono ?_
    rintro e w1 ⟨rfl, hq⟩
    have hq2 := hq.symm
    subst hq2
    clear hq
    go_wp2_with fail
    refine bodyPost_ret (ret_doc2 rfl _ _ w.heap.size { it0 4 with f := f1 } _ rfl rfl (fstD w { it0 4 with f := f1 } _)) rfl ?_
    exact ⟨rfl, pair_below _ _ _⟩
  | false =>
    simp only [Bool.false_eq_true, if_false]
    go_enter Try.func22, Try.ntmps22
    go_wp2_with fail
    refine (hn1 _).mono ?_
    rintro e w1 ⟨rfl, hq⟩
    have hq2 := hq.symm
    subst hq2
    clear hq
    go_wp2_with fail
    refine (hu1 _).mono ?_
    rintro e w1 ⟨rfl, hq⟩
    have hq2 := hq.symm
    subst hq2
    clear hq
    go_wp2_with fail
    refine bodyPost_ret (ret_doc2 rfl _ _ w.heap.size (it0 0) _ rfl rfl (fstD w (it0 0) _)) rfl ?_
    exact ⟨rfl, pair_below _ _ _⟩

set_option maxRecDepth 100000 in
set_option maxHeartbeats 1000000 in
theorem one_complex (s : ByteArray) (k : Nat) (w : World) (hk : k < s.size) (hl : s.size ≤ 140737488351232) (hz : at0 (strNat s) k = 5) :
    Calls Try.prog 22 #[.string s, .int .i64 (k : Int)] w fun e w' => e = .returned (oneRes s.size (takeB 5 ((strNat s).drop (k + 1)))) ∧ Below w.heap.size w w' := by
  have hsl : (strNat s).length = s.size := strNat_len s
  have hix := str_at (s := s) hk
  rw [hz] at hix
  clear hz
  have hn1 := fun w => rnumber_any s (k + 1) w (by omega) hl
  simp only [Int.natCast_add, Int.natCast_one] at hn1
  have hv1 := numRes_lt ((strNat_all s).drop (k + 1))
  have hT1 := takeN_num ((strNat_all s).drop (k + 1))
  have hok1 := numRes_ok (l := (strNat s).drop (k + 1))
  rw [List.length_drop] at hok1
  generalize numRes ((strNat s).drop (k + 1)) = N at *
  obtain ⟨v1, ok1⟩ := N
  simp only at hn1 hv1 hT1 hok1
  have hu1 := fun w => runfloat_any v1 ok1 w hv1
  have hg1 : (ok1 && decide (cb (unr v1) = unr v1)) = true → k + 9 ≤ s.size := fun h => by
    have := hok1 (Bool.and_eq_true_iff.1 h).1
    omega
  generalize (ok1 && decide (cb (unr v1) = unr v1)) = g1 at *
  generalize unr v1 = f1 at *
  clear hok1 hv1
  generalize (v1 : Int) = vi1 at *
  cases g1 with
  | false =>
    have hf : oneRes s.size (takeB 5 ((strNat s).drop (k + 1))) = .tuple #[valR (it0 0), .int .i64 (-1)] := by
      unfold takeB
      rw [if_neg (by decide), if_neg (by decide), if_neg (by decide), if_neg (by decide), if_pos rfl, hT1]
      rfl
    rw [hf]
    clear hf hT1 hg1
    go_enter Try.func22, Try.ntmps22
    go_wp2_with fail
    refine (hn1 _).mono ?_
    rintro e w1 ⟨rfl, hq⟩
    have hq2 := hq.symm
    subst hq2
    clear hq
    go_wp2_with fail
    refine (hu1 _).mono ?_
    rintro e w1 ⟨rfl, hq⟩
    have hq2 := hq.symm
    subst hq2
    clear hq
    go_wp2_with fail
    refine bodyPost_ret (ret_doc2 rfl _ _ w.heap.size (it0 0) _ rfl rfl (fstD w (it0 0) _)) rfl ?_
    exact ⟨rfl, pair_below _ _ _⟩
  | true =>
    have h9 := hg1 rfl
    have hn2 := fun w => rnumber_any s (k + 9) w (by omega) hl
    have hc2 : ((k + 9 : Nat) : Int) = (k : Int) + 1 + 8 := by omega
    simp only [hc2] at hn2
    have hv2 := numRes_lt ((strNat_all s).drop (k + 9))
    have hT2 := takeN_num ((strNat_all s).drop (k + 9))
    have hok2 := numRes_ok (l := (strNat s).drop (k + 9))
    rw [List.length_drop] at hok2
    generalize numRes ((strNat s).drop (k + 9)) = N at *
    obtain ⟨v2, ok2⟩ := N
    simp only at hn2 hv2 hT2 hok2
    have hu2 := fun w => runfloat_any v2 ok2 w hv2
    have hg2 : (ok2 && decide (cb (unr v2) = unr v2)) = true → k + 17 ≤ s.size := fun h => by
      have := hok2 (Bool.and_eq_true_iff.1 h).1
      omega
    generalize (ok2 && decide (cb (unr v2) = unr v2)) = g2 at *
    generalize unr v2 = f2 at *
    clear hok2 hv2
    generalize (v2 : Int) = vi2 at *
    have hln := fun h => len_at (s := s) (k := k + 9) (j := 8) h
    have hf : oneRes s.size (takeB 5 ((strNat s).drop (k + 1))) = if g2 then .tuple #[valR { it0 5 with r := f1, i := f2 }, .int .i64 ((k : Int) + 1 + 16)] else .tuple #[valR (it0 0), .int .i64 (-1)] := by
      unfold takeB
      rw [if_neg (by decide), if_neg (by decide), if_neg (by decide), if_neg (by decide), if_pos rfl, hT1]
      simp only [if_true, List.drop_drop]
      rw [show k + 1 + 8 = k + 9 by omega, hT2]
      cases g2 with
      | false => rfl
      | true =>
        have := hln (by have := hg2 rfl; omega)
        simp only [if_true, Option.map_some, oneRes]
        rw [this]
        rw [show ((k + 9 : Nat) : Int) + ((8 : Nat) : Int) = (k : Int) + 1 + 16 by omega]
    rw [hf]
    clear hf hT1 hT2 hln hg1 hg2 hc2
    cases g2 with
    | true =>
      simp only [if_true]
      go_enter Try.func22, Try.ntmps22
      go_wp2_with fail
      refine (hn1 _).mono ?_
      rintro e w1 ⟨rfl, hq⟩
      have hq2 := hq.symm
      subst hq2
      clear hq
      go_wp2_with fail
      refine (hu1 _).mono ?_
      rintro e w1 ⟨rfl, hq⟩
      have hq2 := hq.symm
      subst hq2
      clear hq
      go_wp2_with fail
      refine (hn2 _).mono ?_
      rintro e w1 ⟨rfl, hq⟩
      have hq2 := hq.symm
      subst hq2
      clear hq
      go_wp2_with fail
      refine (hu2 _).mono ?_
      rintro e w1 ⟨rfl, hq⟩
      have hq2 := hq.symm
      subst hq2
      clear hq
      go_wp2_with fail
      refine bodyPost_ret (ret_doc2 rfl _ _ w.heap.size { it0 5 with r := f1, i := f2 } _ rfl rfl (fstD w { it0 5 with r := f1, i := f2 } _)) rfl ?_
      exact ⟨rfl, pair_below _ _ _⟩
    | false =>
      simp only [Bool.false_eq_true, if_false]
      go_enter Try.func22, Try.ntmps22
      go_wp2_with fail
      refine (hn1 _).mono ?_
      rintro e w1 ⟨rfl, hq⟩
      have hq2 := hq.symm
      subst hq2
      clear hq
      go_wp2_with fail
      refine (hu1 _).mono ?_
      rintro e w1 ⟨rfl, hq⟩
      have hq2 := hq.symm
      subst hq2
      clear hq
      go_wp2_with fail
      refine (hn2 _).mono ?_
      rintro e w1 ⟨rfl, hq⟩
      have hq2 := hq.symm
      subst hq2
      clear hq
      go_wp2_with fail
      refine (hu2 _).mono ?_
      rintro e w1 ⟨rfl, hq⟩
      have hq2 := hq.symm
      subst hq2
      clear hq
      go_wp2_with fail
      refine bodyPost_ret (ret_doc2 rfl _ _ w.heap.size (it0 0) _ rfl rfl (fstD w (it0 0) _)) rfl ?_
      exact ⟨rfl, pair_below _ _ _⟩

set_option maxRecDepth 100000 in
set_option maxHeartbeats 1000000 in
theorem one_text (s : ByteArray) (k : Nat) (w : World) (hk : k < s.size) (hl : s.size ≤ 140737488351232) (hz : at0 (strNat s) k = 6) :
    Calls Try.prog 22 #[.string s, .int .i64 (k : Int)] w fun e w' => e = .returned (oneRes s.size (takeB 6 ((strNat s).drop (k + 1)))) ∧ Below w.heap.size w w' := by
  have hsl : (strNat s).length = s.size := strNat_len s
  have hix := str_at (s := s) hk
  rw [hz] at hix
  clear hz
  have ht := fun w => runtext_any s (k + 1) w (by omega) hl
  simp only [Int.natCast_add, Int.natCast_one] at ht
  have hform := fun p t => takeT_form (l := (strNat s).drop (k + 1)) (p := p) (t := t) ((strNat_all s).drop (k + 1))
  have hf : oneRes s.size (takeB 6 ((strNat s).drop (k + 1))) = txtRes s.size (takeT ((strNat s).drop (k + 1))) := by
    unfold takeB
    rw [if_neg (by decide), if_neg (by decide), if_neg (by decide), if_neg (by decide), if_neg (by decide), if_pos rfl]
    cases takeT ((strNat s).drop (k + 1)) <;> rfl
  rw [hf]
  clear hf
  obtain ⟨T, htk⟩ : ∃ T, takeT ((strNat s).drop (k + 1)) = T := ⟨_, rfl⟩
  rw [htk]
  simp only [htk] at ht
  have W0 := wrl0 w 6
  have W1 := wrl1 w 6
  have WB := wrlb w 6
  have WS : (wrl w 6).heap.size = w.heap.size + 2 := by unfold wrl; simp
  go_enter Try.func22, Try.ntmps22
  go_wp2_with fail
  refine (show Calls _ _ _ (wrl w 6) _ from ht (wrl w 6)).mono ?_
  rintro e w1 ⟨rfl, hb1⟩
  have D0 := W0.below hb1 (by omega)
  have D1 := W1.below hb1 (by omega)
  have hbw := WB.trans (hb1.mono (by omega))
  have hs1 : w.heap.size + 2 ≤ w1.heap.size := by rw [← WS]; exact hb1.size
  clear W0 W1 WB WS hb1 ht
  obtain ⟨c0, c1, c2, c3, c4, c5, c6⟩ := D1.cells
  obtain ⟨d0, d1, d2, d3, d4, d5, d6⟩ := D0.cells
  have cf := fun j => frozen_of_row w1 (w.heap.size + 1) j _ _ D1
  have df := fun j => frozen_of_row w1 w.heap.size j _ _ D0
  have df0 := df 0
  have df1 := df 1
  have df2 := df 2
  have df3 := df 3
  have df4 := df 4
  have df5 := df 5
  have df6 := df 6
  have cf6 := cf 6
  simp only [it0] at c0 c1 c2 c3 c4 c5 c6 d0 d1 d2 d3 d4 d5 d6
  have HD := hide_it D0
  clear D0 D1 cf df
  cases T with
  | none =>
    simp only [untRes]
    clear hform htk
    go_wp2_with fail
    refine bodyPost_ret (ret_doc2 rfl _ _ w.heap.size (it0 0) _ rfl rfl ((HD.out.far (by omega) _ _).all (it0 0))) rfl ?_
    exact ⟨rfl, below_docs (hbw.setCell (Nat.le_succ _) _) (Nat.le_refl _) _ _ _ _ _ _ _⟩
  | some pt =>
    obtain ⟨p, t⟩ := pt
    have hlen := congrArg List.length (hform p t htk).1
    simp only [List.length_append, List.length_drop, List.length_cons, List.length_nil] at hlen
    simp only [untRes]
    obtain ⟨m, hm⟩ : ∃ m : Int, m = (s.size : Int) - (t.length : Int) := ⟨_, rfl⟩
    rw [← hm]
    have hd : decide (0 ≤ m) = true := by simp; omega
    have hd2 : decide (m ≥ 0) = true := by simp; omega
    obtain ⟨q, hq⟩ : ∃ q, q = strOf p := ⟨_, rfl⟩
    have HE : Hid (txtRes s.size (some (p, t)) = .tuple #[valR { it0 6 with t := q }, .int .i64 m]) := by unfold Hid; rw [hm, hq]; rfl
    rw [← hq]
    clear hm hlen hform htk hq
    go_wp2_with fail
    refine bodyPost_ret (ret_doc2 rfl _ _ w.heap.size { it0 6 with t := q } _ rfl rfl ((HD.out.far (by omega) _ _).all { it0 6 with t := q })) rfl ?_
    exact ⟨by rw [HE.out]; rfl, below_docs (hbw.setCell (Nat.le_succ _) _) (Nat.le_refl _) _ _ _ _ _ _ _⟩

set_option maxRecDepth 100000 in
set_option maxHeartbeats 1000000 in
theorem one_bad (s : ByteArray) (k z : Nat) (w : World) (hk : k < s.size) (hl : s.size ≤ 140737488351232) (hz : at0 (strNat s) k = z) (h1 : z ≠ 1) (h2 : z ≠ 2) (h3 : z ≠ 3) (h4 : z ≠ 4) (h5 : z ≠ 5) (h6 : z ≠ 6) :
    Calls Try.prog 22 #[.string s, .int .i64 (k : Int)] w fun e w' => e = .returned (oneRes s.size (takeB z ((strNat s).drop (k + 1)))) ∧ Below w.heap.size w w' := by
  have hix := str_at (s := s) hk
  have hz8 := (strNat_all s).at k
  rw [hz] at hix hz8
  clear hz
  have hf : oneRes s.size (takeB z ((strNat s).drop (k + 1))) = .tuple #[valR (it0 0), .int .i64 (-1)] := by
    unfold takeB; rw [if_neg h1, if_neg h2, if_neg h3, if_neg h4, if_neg h5, if_neg h6]; rfl
  rw [hf]
  clear hf
  have k1 : ((z : Int) == 1) = false := by simp; omega
  have k2 : ((z : Int) == 2) = false := by simp; omega
  have k3 : ((z : Int) == 3) = false := by simp; omega
  have k4 : ((z : Int) == 4) = false := by simp; omega
  have k5 : ((z : Int) == 5) = false := by simp; omega
  have k6 : ((z : Int) == 6) = false := by simp; omega
  have hw0 : IntKind.i64.wrap (z : Int) = (z : Int) := by simp [IntKind.wrap, IntKind.bits, IntKind.signed]; omega
  go_enter Try.func22, Try.ntmps22
  go_wp2_with fail
  refine bodyPost_ret (ret_doc2 rfl _ _ w.heap.size (it0 0) _ rfl rfl (fstD w (it0 0) _)) rfl ?_
  exact ⟨rfl, pair_below _ _ _⟩

theorem rone_any (s : ByteArray) (k : Nat) (w : World) (hk : k < s.size) (hl : s.size ≤ 140737488351232) :
    Calls Try.prog 22 #[.string s, .int .i64 (k : Int)] w fun e w' => e = .returned (oneRes s.size (takeI ((strNat s).drop k))) ∧ Below w.heap.size w w' := by
  rw [drop_at (show k < (strNat s).length by rw [strNat_len]; exact hk), takeI]
  obtain ⟨z, hz⟩ : ∃ z, at0 (strNat s) k = z := ⟨_, rfl⟩
  rw [hz]
  by_cases h1 : z = 1
  · subst h1; exact one_none s k w hk hl hz
  by_cases h2 : z = 2
  · subst h2; exact one_bool s k w hk hl hz
  by_cases h3 : z = 3
  · subst h3; exact one_int s k w hk hl hz
  by_cases h4 : z = 4
  · subst h4; exact one_float s k w hk hl hz
  by_cases h5 : z = 5
  · subst h5; exact one_complex s k w hk hl hz
  by_cases h6 : z = 6
  · subst h6; exact one_text s k w hk hl hz
  exact one_bad s k z w hk hl hz h1 h2 h3 h4 h5 h6

end Go.Proofs.Ytelcfmjhbjnkoaa
