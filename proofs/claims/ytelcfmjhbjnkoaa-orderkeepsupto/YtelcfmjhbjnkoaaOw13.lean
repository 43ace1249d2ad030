/- A text read as items by the program. -/
import Derived.Test.YtelcfmjhbjnkoaaOw12
namespace Go.Proofs.Ytelcfmjhbjnkoaa
open Go.RowKit

attribute [local go_sem] st_float st_complex

/-- An item's cells. -/
abbrev cellsI (x : It) : List Value := [.int .i64 x.k, .bool x.b, .int .i64 x.n, .float .f64 x.f, .complex .f64 x.r x.i, .string x.t]
theorem infoI : (Try.prog.info? 29).map (fun i => (i.zero, i.size, i.bytes)) = some (some (.agg #[.int .i64 0, .bool false, .int .i64 0, .float .f64 0, .complex .f64 0 0, .string ByteArray.empty]), 6, 64) := by kernel_rfl
/-- v is a slice of the call's own that holds the items ys. -/
def OwnI (w : World) (base : Nat) (v : Value) (ys : List It) : Prop := w.ownsRow base 29 6 v ys.length (ys.flatMap cellsI)

theorem flat_at : ∀ (ys : List It) (k j : Nat) (h : k < ys.length), j < 6 → (ys.flatMap cellsI)[k * 6 + j]? = (cellsI ys[k])[j]?
  | [], k, j, h, _ => by simp at h
  | y :: ys, 0, j, h, hj => by
    rw [List.flatMap_cons, Nat.zero_mul, Nat.zero_add, List.getElem?_append_left (by simpa using hj)]
    rfl
  | y :: ys, k + 1, j, h, hj => by
    rw [List.flatMap_cons, List.getElem?_append_right (by simp; omega)]
    have e : (k + 1) * 6 + j - (cellsI y).length = k * 6 + j := by simp; omega
    rw [e, flat_at ys k j (by simpa using h) hj]
    rfl
theorem flat_len (ys : List It) : (ys.flatMap cellsI).length = ys.length * 6 := by
  induction ys with
  | nil => rfl
  | cons y ys ih => rw [List.flatMap_cons, List.length_append, ih, List.length_cons]; simp; omega

theorem OwnI.row {w : World} {base : Nat} {v : Value} {ys : List It} (h : OwnI w base v ys) : ∃ a cap, v = .slice a ys.length cap ∧ RowI w a ys ∧ ys.length ≤ cap ∧ (a = none → ys.length = 0 ∧ cap = 0) := by
  rcases h.2 with ⟨rfl, h0⟩ | ⟨g, cap, cur, rfl, _, hh, hn, hm, _, ht⟩
  · exact ⟨none, 0, by rw [h0], .inl h0, by omega, fun _ => ⟨h0, rfl⟩⟩
  · refine ⟨_, cap, rfl, .inr ⟨g, 0, rfl, (Array.getElem?_eq_some_iff.1 hh).1, fun i hi => ?_⟩, hn, fun e => by cases e⟩
    have key : ∀ j, j < 6 → w.cell? ⟨g, 0 + i * 6 + j, none⟩ = (cellsI ys[i])[j]? := fun j hj => by
      rw [cell_of_row _ _ _ _ _ _ hh, ← flat_at ys i j hi hj, ← ht, List.getElem?_take_of_lt (by omega), ← Array.getElem?_toList, Nat.zero_add]
    exact ⟨key 0 (by omega), key 1 (by omega), key 2 (by omega), key 3 (by omega), key 4 (by omega), key 5 (by omega)⟩
theorem OwnI.ge {w : World} {base : Nat} {v : Value} {ys : List It} (h : OwnI w base v ys) {j : Nat} (hj : v.ownBlock = some j) : base ≤ j := (h.lt j hj).1
theorem OwnI.inside {w : World} {base : Nat} {v : Value} {ys : List It} (h : OwnI w base v ys) : ∀ j, v.ownBlock = some j → j < w.heap.size := by
  rcases h.2 with ⟨rfl, _⟩ | ⟨g, cap, cur, rfl, h3, hh, h4⟩
  · intro j e; cases e
  · intro j e; cases e; exact (Array.getElem?_eq_some_iff.1 hh).1
theorem OwnI.keep {w w' : World} {base : Nat} {v : Value} {ys : List It} {r : Option Nat} (h : OwnI w base v ys) (hg : w.grownBy w' r) (hne : ∀ j, v.ownBlock = some j → r ≠ some j) : OwnI w' base v ys := by
  refine ⟨h.1, ?_⟩
  rcases h.2 with h2 | ⟨g, cap, cur, rfl, h3, hh, h4⟩
  · exact .inl h2
  · have hlt := (Array.getElem?_eq_some_iff.1 hh).1
    exact .inr ⟨g, cap, cur, rfl, h3, (hg.block g hlt (fun e => hne g rfl e.symm)).trans hh, h4⟩
theorem OwnI.below {w w' : World} {base : Nat} {v : Value} {ys : List It} (h : OwnI w base v ys) (hb : Below w.heap.size w w') : OwnI w' base v ys := h.keep (grown_below hb none) (fun _ _ => by simp)

theorem wpList_append_item (w : World) {ops : Array Oper} {rest : List Oper} {o : Oper} {act : Act} {Q : Exit → Act → World → Prop} (hgd : o.guard = none) (s x : Operand)
    (ho : o.op = .call { callee := .builtin .append, args := #[s, x], argTypes := #[24, 24] })
    (base : Nat) (v : Value) (ys : List It) (hs : act.eval s = v) (hown : OwnI w base v ys) (y : It)
    (hx : act.eval x = .slice (some ⟨w.heap.size, 0, none⟩) 1 1)
    (hl : ys.length + 1 ≤ 1000000000) (hbase : base ≤ w.heap.size)
    (h : ∀ v' w', OwnI w' base v' (ys ++ [y]) → (w.alloc (.cells #[.int .i64 y.k, .bool y.b, .int .i64 y.n, .float .f64 y.f, .complex .f64 y.r y.i, .string y.t] 29)).grownBy w' v.ownBlock → (v'.ownBlock = v.ownBlock ∨ v'.ownBlock = some (w.heap.size + 1)) → wpList Try.prog ops Q rest (act.put o.dst v') w') :
    wpList Try.prog ops Q (o :: rest) act (w.alloc (.cells #[.int .i64 y.k, .bool y.b, .int .i64 y.n, .float .f64 y.f, .complex .f64 y.r y.i, .string y.t] 29)) := by
  obtain ⟨i0, hi, hz0, hz1, hz2⟩ := info_parts infoI
  have hone : ∀ u ∈ cellsI y, u.oneCell' = true := by simp [Value.oneCell']
  have hnews : ∀ j u, (cellsI y)[j]? = some u → (w.alloc (.cells #[.int .i64 y.k, .bool y.b, .int .i64 y.n, .float .f64 y.f, .complex .f64 y.r y.i, .string y.t] 29)).cell? ((⟨w.heap.size, 0, none⟩ : Addr).add j) = some u := fun j u hu => by
    rw [Addr.add_lit, cell_of_row _ _ _ _ _ _ (heap_alloc_new w _), Nat.zero_add]
    rw [← hu]
    exact List.getElem?_toArray
  have hown' : OwnI (w.alloc (.cells #[.int .i64 y.k, .bool y.b, .int .i64 y.n, .float .f64 y.f, .complex .f64 y.r y.i, .string y.t] 29)) base v ys := hown.below ((Below.refl _ _).alloc (Nat.le_refl _) _)
  refine wpList_append_own_at _ hgd s x 24 ho base 29 i0 _ 6 64 Try.underlying24 hi hz0 hz1 hz2 rfl (by omega) v ys.length (ys.flatMap cellsI) hs hown' ⟨w.heap.size, 0, none⟩ 1 1 (cellsI y) hx rfl hnews hone (by unfold maxLen; omega) (by omega) (by simp; omega) ?_
  intro v4 w4 hown4 hgrow4 hnil4 hat4
  exact h v4 w4 (by unfold OwnI; simpa using hown4) hgrow4 (by simpa using hat4)

/-- What Decode answers. -/
def decRes (l : List Nat) : List It × Int := match decF 64 l with | some ys => (ys, 0) | none => ([], 41)
theorem decF_nonempty {m : Nat} {l : List Nat} (hl : 0 < l.length) : decF (m + 1) l = match takeI l with | none => none | some (x, t) => (decF m t).map fun xs => x :: xs := by
  cases l with
  | nil => simp at hl
  | cons z l => rfl
theorem decF_zero {l : List Nat} (hl : 0 < l.length) : decF 0 l = none := by
  cases l with
  | nil => simp at hl
  | cons z l => rfl
theorem decF_nil (m : Nat) : decF m [] = some [] := by cases m <;> rfl

/-- How much is left to read. -/
def left (p : Value) (wr : World) : Nat := match p with | .pointer (some a) => (match wr.cell? a with | some (.string q) => q.size | _ => 0) | _ => 0
theorem left_at {g : Nat} {wr : World} {s : ByteArray} {b : Bool} (h : RdO wr g s b) : left (.pointer (some ⟨g, 0, none⟩)) wr = s.size := by
  obtain ⟨c0, _⟩ := h.cells
  unfold left
  simp only [c0]

set_option maxRecDepth 100000 in
set_option maxHeartbeats 1000000 in
theorem decode_any (s : ByteArray) (w : World) (hl : s.size ≤ 140737488351232) :
    Calls Try.prog 13 #[.string s] w fun e w' => ∃ v, e = .returned (.tuple #[v, .int .i64 (decRes (strNat s)).2]) ∧ OwnI w' w.heap.size v (decRes (strNat s)).1 ∧ Below w.heap.size w w' := by
  obtain ⟨res, hres⟩ : ∃ z, z = decRes (strNat s) := ⟨_, rfl⟩
  rw [← hres]
  have HRES := hide_it hres
  clear hres
  have hb0 : Below w.heap.size w (w.alloc (.cells #[.string s, .bool false] 61)) := (Below.refl _ _).alloc (Nat.le_refl _) _
  have hr0 : RdO (w.alloc (.cells #[.string s, .bool false] 61)) w.heap.size s false := heap_alloc_new w _
  go_enter Try.func13, Try.ntmps13
  go_wp2_with fail
  go_loopw [4, 5] (fun v p wr => ∃ (ys : List It) (g : Nat) (q : ByteArray), OwnI wr w.heap.size v ys ∧ p = .pointer (some ⟨g, 0, none⟩) ∧ RdO wr g q false ∧ w.heap.size ≤ g ∧ Below w.heap.size w wr ∧ (∀ j, v.ownBlock = some j → g ≠ j) ∧ ys.length ≤ 64 ∧ q.size ≤ s.size ∧ Hid (decF 64 (strNat s) = (decF (64 - ys.length) (strNat q)).map (fun zs => ys ++ zs))) (fun _ p wr => left p wr)
  case atStart => exact ⟨[], w.heap.size, s, World.ownsRow_nil _ _ _ _, rfl, hr0, Nat.le_refl _, hb0, (fun j e => by cases e), by simp, Nat.le_refl _, by unfold Hid; simp⟩
  case round =>
    obtain ⟨ys, g, q, how, rfl, hr, hge, hbl, hne, hyl, hql, hto⟩ := hrel
    obtain ⟨c0, c1, f0, f1⟩ := hr.cells
    have hm0 := left_at hr
    clear hb0 hr0
    by_cases hq0 : q.size = 0
    · have hqe : q.toList = [] := (nil_toList q).2 hq0
      have hqb : (q.toList == []) = true := by simpa using hqe
      have hqn : strNat q = [] := List.eq_nil_of_length_eq_zero (by rw [strNat_len]; exact hq0)
      go_wp2_with fail
      go_ret2
      have hfin : res = (ys, 0) := by
        rw [HRES.out]
        unfold decRes
        rw [hto.out, hqn, decF_nil]
        simp
      rw [hfin]
      exact ⟨_, rfl, how, hbl⟩
    · have hqe : ¬ q.toList = [] := fun e => hq0 ((nil_toList q).1 e)
      have hqb : (q.toList == []) = false := by simpa using hqe
      have hqp : 0 < (strNat q).length := by rw [strNat_len]; omega
      have oi := item_any g q wr hr (by omega) (by omega)
      go_wp2_with fail
      refine oi.mono ?_
      rintro e w1 h1
      obtain ⟨y, q1, f, rfl, hr1, hg1, -, hq1l, ht1⟩ := h1.split (fun _ => True) (fun v hv => by obtain ⟨z, rfl⟩ := hv; exact ⟨z, trivial, rfl⟩) (fun _ _ _ => trivial)
      have hb1 := hbl.grown hg1 hbl.size (fun j e => by cases e; exact hge)
      have how1 := how.keep hg1 (fun j e => by have := hne j e; simpa using this)
      have hglt := hr1.lt
      obtain ⟨d0, d1, e0, e1⟩ := hr1.cells
      have hbs1 := hb1.size
      have hbA : Below w1.heap.size w1 (w1.alloc (.cells #[.int .i64 y.k, .bool y.b, .int .i64 y.n, .float .f64 y.f, .complex .f64 y.r y.i, .string y.t] 29)) := (Below.refl _ _).alloc (Nat.le_refl _) _
      clear h1 oi c0 c1 f0 f1 hr how hg1 hbl
      cases f with
      | true =>
        have hbad : res = ([], 41) := by
          have ht2 : takeI (strNat q) = none := by
            rcases ht1.out with ⟨h, _⟩ | ⟨_, h⟩
            · cases h
            · exact h
          rw [HRES.out]
          unfold decRes
          rw [hto.out]
          by_cases h64 : ys.length = 64
          · rw [h64, decF_zero hqp]; rfl
          · rw [show 64 - ys.length = (63 - ys.length) + 1 by omega, decF_nonempty hqp, ht2]; rfl
        go_wp2_with fail
        go_ret2
        rw [hbad]
        exact ⟨_, rfl, World.ownsRow_nil _ _ _ _, hb1.trans (hbA.mono hbs1)⟩
      | false =>
        have ht2 : takeI (strNat q) = some (y, strNat q1) := by
          rcases ht1.out with ⟨_, h⟩ | ⟨h, _⟩
          · exact h
          · cases h
        obtain ⟨a1, cap1, hv1, hrow1, _, _⟩ := how1.row
        subst hv1
        by_cases h64 : ys.length = 64
        · have hbad : res = ([], 41) := by
            rw [HRES.out]
            unfold decRes
            rw [hto.out, h64, decF_zero hqp]; rfl
          have hd : ((ys.length : Int) == 64) = true := by simp; omega
          go_wp2_with fail
          go_ret2
          rw [hbad]
          exact ⟨_, rfl, World.ownsRow_nil _ _ _ _, hb1.trans (hbA.mono hbs1)⟩
        · have hd : ((ys.length : Int) == 64) = false := by simp; omega
          have howA := how1.below hbA
          have hq1s : q1.size < q.size := by
            have := (takeI_form (strNat_all q) ht2).2.2.2.2.2
            rwa [strNat_len, strNat_len] at this
          have hrA := hr1.below hbA hglt
          go_wp2_with (at_builtin; refine wpList_append_item _ rfl _ _ rfl w.heap.size _ ys rfl howA y (by first | rfl | (show Value.slice (some ⟨_, 0, none⟩) 1 1 = _; simp)) (by omega) (by simp; omega) ?_; intro v4 w4 hown4 hg4 hat4; have hr4 : RdO w4 g q1 false := (hrA.below ((Below.refl _ _).alloc (Nat.le_refl _) _) hrA.lt).grown hg4 (fun e => hne _ e rfl); obtain ⟨k0, k1, k2, k3⟩ := hr4.cells)
          have hbA2 := hb1.trans (hbA.mono hbs1)
          have hbB : Below w.heap.size w w4 := (hbA2.alloc hbA2.size _).grown hg4 (by simp; omega) (fun j e => how1.ge e)
          have hbs4 := hbB.size
          have hbC : Below w4.heap.size w4 (w4.alloc (.cells #[.string q1, .bool false] 61)) := (Below.refl _ _).alloc (Nat.le_refl _) _
          have hrN : RdO (w4.alloc (.cells #[.string q1, .bool false] 61)) w4.heap.size q1 false := heap_alloc_new w4 _
          go_roundw
          case rel =>
            refine ⟨ys ++ [y], w4.heap.size, q1, hown4.below hbC, rfl, hrN, hbs4, hbB.trans (hbC.mono hbs4), ?_, by simp; omega, by omega, ?_⟩
            · intro j e
              have := hown4.inside j e
              omega
            · unfold Hid
              rw [hto.out, show 64 - ys.length = (63 - ys.length) + 1 by omega, decF_nonempty hqp, ht2]
              simp only [List.length_append, List.length_singleton]
              rw [show 64 - (ys.length + 1) = 63 - ys.length by omega]
              cases decF (63 - ys.length) (strNat q1) <;> simp
          case measure => rw [left_at hrN, hm0]; omega

end Go.Proofs.Ytelcfmjhbjnkoaa
