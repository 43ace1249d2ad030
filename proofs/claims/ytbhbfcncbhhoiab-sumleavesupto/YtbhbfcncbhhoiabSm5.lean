/- Slices with room behind them; the same bytes; slices of the call's own, told by their block. -/
import Derived.Test.YtbhbfcncbhhoiabSm4
import Derived.Laws.BytesString
import Derived.Laws.Cells
import Derived.Lib.SliceRun
namespace Go.Proofs.Ytbhbfcncbhhoiab
open Go.RowKit

/-- The text of bytes. -/
def strOf (p : List Nat) : ByteArray := (p.map fun n : Nat => (n : Int)).foldl (fun r n => r.push (UInt8.ofNat n.toNat)) ByteArray.empty

theorem conv_row {w : World} {a : Option Addr} {cap : Nat} {p : List Nat} (hr : RowB w a p) (hn : a = none → p.length = 0 ∧ cap = 0) :
    (convert 22 9 (.slice a p.length cap)).run Try.prog w = .ok (.string (strOf p)) w := by
  rw [run_convert_bytes_string w _ _ _ _ _ _ Try.underlying22 Try.underlying5 Try.underlying9]
  cases a with
  | none =>
    obtain ⟨h1, h2⟩ := hn rfl
    have e : p = [] := List.eq_nil_of_length_eq_zero h1
    subst e
    subst h2
    rfl
  | some ad =>
    unfold strOf
    refine run_bytesToString w ad p.length cap (p.map fun n : Nat => (n : Int)) ?_
    have h := run_loadCells_list (P := Try.prog) (w := w) ad (p.map encB) (fun j v hv => ?_)
    · have e : (p.map encB) = (p.map fun n : Nat => (n : Int)).map (Value.int .u8) := by simp [encB]
      rw [List.length_map, e] at h
      exact h
    · have hj : j < p.length := by have := (List.getElem?_eq_some_iff.1 hv).1; simpa using this
      obtain ⟨b, o, e, hlt, hc⟩ := hr.here hj
      cases e
      rw [Addr.add_lit, hc j hj]
      exact (mapB_at hj).symm.trans hv


set_option maxRecDepth 100000 in
set_option maxHeartbeats 400000 in
theorem same_any (a b : Option Addr) (ca cb : Nat) (zs : List Nat) (w : World) (ha : RowB w a zs) (hb : RowB w b zs) (hna : a = none → zs.length = 0 ∧ ca = 0) (hnb : b = none → zs.length = 0 ∧ cb = 0) :
    Calls Try.prog 12 #[.slice a zs.length ca, .slice b zs.length cb] w fun e w' => e = .returned (.bool true) ∧ w' = w := by
  have c1 := conv_row ha hna
  have c2 := conv_row hb hnb
  clear ha hb hna hnb
  go_enter Try.func12, Try.ntmps12
  go_wp2
  go_ret
  exact ⟨rfl, rfl⟩

/-- The marks behind lent bytes. -/
def marks (k : Nat) : List Nat := (List.range k).map fun i => 161 + i
theorem marks_len (k : Nat) : (marks k).length = k := by simp [marks]
theorem marks_succ (k : Nat) : marks (k + 1) = marks k ++ [161 + k] := by simp [marks, List.range_succ]
theorem marks_8 {k : Nat} (h : k ≤ 70) : All8 (marks k) := by
  intro z hz
  obtain ⟨i, hi, rfl⟩ := List.mem_map.1 hz
  have := List.mem_range.1 hi
  omega

set_option maxRecDepth 100000 in
set_option maxHeartbeats 400000 in
theorem lent_any (a : Option Addr) (cap : Nat) (zs : List Nat) (w : World) (hr : RowB w a zs) (hl : zs.length + 70 ≤ 140737488355328) (hnil : a = none → zs.length = 0 ∧ cap = 0) :
    Calls Try.prog 5 #[.slice a zs.length cap] w fun e w' => (∃ r, e = .returned r ∧ OwnB w' w.heap.size r (zs ++ marks 70)) ∧ Below w.heap.size w w' := by
  have hcp := copied_any a cap zs w hr (by omega) hnil
  go_enter Try.func5, Try.ntmps5
  go_wp2_with fail
  refine hcp.mono ?_
  rintro e w1 ⟨⟨r1, rfl, ho1⟩, hb1⟩
  clear hcp
  go_wp2_with fail
  go_loopw [3, 4] (fun r i wr => ∃ k : Nat, k ≤ 70 ∧ i = .int .i64 (k : Int) ∧ OwnB wr w.heap.size r (zs ++ marks k) ∧ Below w.heap.size w wr) (fun _ i _ => 70 - (intOf i).toNat)
  case atStart => exact ⟨0, by omega, rfl, by simpa [marks] using ho1, hb1⟩
  case round =>
    obtain ⟨k, hk, rfl, hown, hbl⟩ := hrel
    clear ho1 hb1
    by_cases hlt : k < 70
    · have hbs := hbl.size
      have hd : decide ((k : Int) < 70) = true := by simp; omega
      have hlen : (zs ++ marks k).length ≤ zs.length + 69 := by simp [marks_len]; omega
      have hw : IntKind.u8.wrap (161 + (k : Int)) = ((161 + k : Nat) : Int) := by rw [IntKind.wrap_u8']; omega
      have hw2 : (161 + (k : Int)) % 256 = ((161 + k : Nat) : Int) := by omega
      obtain ⟨M, hM⟩ : ∃ M, M = 161 + k := ⟨_, rfl⟩
      rw [← hM] at hw hw2
      have HM := hide_it hM
      have HS := hide_it (marks_succ k)
      clear hM
      go_wp2_with (at_builtin; refine wpList_append_byte _ rfl _ _ rfl w.heap.size _ _ rfl hown M rfl (by omega) hbs ?_; intro v4 w4 hown4 hg4 hat4)
      go_roundw
      case rel => exact ⟨k + 1, by omega, by go_num, by rw [HS.out, ← List.append_assoc, ← HM.out]; exact hown4, (hbl.alloc hbs _).grown hg4 (by simp; omega) (fun j e => hown.ge e)⟩
      case measure => simp [intOf]; omega
    · have hk8 : k = 70 := by omega
      subst hk8
      go_wp2_with fail
      go_ret
      exact ⟨⟨_, rfl, hown⟩, hbl⟩

theorem run_append_rowB (w : World) (base : Nat) (v : Value) (xs : List Nat) (ty : TypeId) (hown : OwnB w base v xs) (ad : Addr) (cap : Nat) (zs : List Nat) (hr : RowB w (some ad) zs) (hl : xs.length + zs.length ≤ 140737488355328) (hbase : base ≤ w.heap.size) :
    ∃ v' w', (Builtin.append_ #[22, 22] ty #[v, .slice (some ad) zs.length cap]).run Try.prog w = .ok v' w' ∧ OwnB w' base v' (xs ++ zs) ∧ w.grownBy w' v.ownBlock ∧ (v'.ownBlock = v.ownBlock ∨ v'.ownBlock = some w.heap.size) := by
  obtain ⟨i0, hi, hz0, hz1, hz2⟩ := info_parts infoB
  have hnews : ∀ j u, (zs.map encB)[j]? = some u → w.cell? (ad.add j) = some u := fun j u hu => by
    have hj : j < zs.length := by have := (List.getElem?_eq_some_iff.1 hu).1; simpa using this
    obtain ⟨b, o, e, hlt, hc⟩ := hr.here hj
    cases e
    rw [Addr.add_lit, hc j hj]
    exact (mapB_at hj).symm.trans hu
  have hone : ∀ u ∈ zs.map encB, u.oneCell' = true := fun u hu => by
    obtain ⟨z, _, rfl⟩ := List.mem_map.1 hu
    rfl
  obtain ⟨v4, w4, hrun, hown4, hgrow4, hnil4, hat4⟩ := run_append_own_at (P := Try.prog) w base 22 ty 5 i0 (.int .u8 0) 1 1 Try.underlying22 hi hz0 hz1 hz2 rfl (by omega) v xs.length (xs.map encB) hown ad zs.length cap (zs.map encB) (by simp) hnews hone (by unfold maxLen; omega) (by omega) hbase
  exact ⟨v4, w4, hrun, by unfold OwnB; simpa using hown4, hgrow4, hat4⟩

/-- Block g is a slice of the call's own that holds zs. -/
structure Ow (w : World) (g c : Nat) (zs : List Nat) : Prop where
  own : OwnB w g (.slice (some ⟨g, 0, none⟩) zs.length c) zs
  pos : 0 < zs.length
theorem Ow.lt {w : World} {g c : Nat} {zs : List Nat} (h : Ow w g c zs) : g < w.heap.size := h.own.inside g rfl
theorem Ow.keep {w w' : World} {g c : Nat} {zs : List Nat} (h : Ow w g c zs) (e : w'.heap[g]? = w.heap[g]?) : Ow w' g c zs := by
  refine ⟨⟨h.own.1, ?_⟩, h.pos⟩
  rcases h.own.2 with ⟨h2, _⟩ | ⟨g', cap, cur, e', h3, hh, h4⟩
  · cases h2
  · cases e'
    exact .inr ⟨g, c, cur, rfl, h3, e.trans hh, h4⟩
theorem Ow.row {w : World} {g c : Nat} {zs : List Nat} (h : Ow w g c zs) : RowB w (some ⟨g, 0, none⟩) zs := by
  obtain ⟨a1, c1, e1, hr, _⟩ := h.own.row
  cases e1
  exact hr
theorem Ow.fits {w : World} {g c : Nat} {zs : List Nat} (h : Ow w g c zs) : zs.length ≤ c := by
  obtain ⟨a1, c1, e1, _, hf, _⟩ := h.own.row
  cases e1
  exact hf
theorem OwnB.block {w : World} {base : Nat} {v : Value} {zs : List Nat} (h : OwnB w base v zs) (h0 : 0 < zs.length) : ∃ g c, v = .slice (some ⟨g, 0, none⟩) zs.length c ∧ base ≤ g ∧ Ow w g c zs := by
  obtain ⟨a, c, rfl, _⟩ := h.row
  obtain ⟨g, cur, rfl, _, hg, hh, _⟩ := h.at h0
  refine ⟨g, c, rfl, hg, ⟨⟨h.1, ?_⟩, h0⟩⟩
  rcases h.2 with ⟨h2, _⟩ | ⟨g', cap, cur', e', h3, hh', h4⟩
  · cases h2
  · cases e'
    exact .inr ⟨g, c, cur', rfl, Nat.le_refl _, hh', h4⟩
theorem RowB.take {w : World} {a : Option Addr} {zs : List Nat} (h : RowB w a zs) (n : Nat) : RowB w a (zs.take n) := by
  rcases h with h | ⟨b, o, e, hlt, hc⟩
  · exact .inl (by rw [List.length_take]; omega)
  · refine .inr ⟨b, o, e, hlt, fun i hi => ?_⟩
    rw [List.length_take] at hi
    rw [hc i (by omega)]
    unfold at0
    rw [List.getD_eq_getElem?_getD, List.getD_eq_getElem?_getD, List.getElem?_take_of_lt (by omega)]
theorem Ow.set {w : World} {g c : Nat} {zs : List Nat} (h : Ow w g c zs) {i : Nat} (hi : i < zs.length) (x : Nat) : Ow (w.setCell ⟨g, i, none⟩ (.int .u8 (x : Int))) g c (zs.set i x) := by
  have := h.own.set hi x
  exact ⟨by simpa using this, by simpa using h.pos⟩

theorem fill_step {zs : List Nat} {k x : Nat} (hk : k < zs.length) : (List.replicate k x ++ zs.drop k).set k x = List.replicate (k + 1) x ++ zs.drop (k + 1) := by
  rw [List.set_append_right _ _ (by simp)]
  simp only [List.length_replicate, Nat.sub_self]
  rw [List.drop_eq_getElem_cons hk, List.set_cons_zero, List.replicate_succ', List.append_assoc]
  rfl
theorem fill_len {zs : List Nat} {k x : Nat} (hk : k ≤ zs.length) : (List.replicate k x ++ zs.drop k).length = zs.length := by simp; omega

end Go.Proofs.Ytbhbfcncbhhoiab
