/- The document's answer: a text read as items. -/
import Derived.Test.YtelcfmjhbjnkoaaRf9
import Derived.Test.YtelcfmjhbjnkoaaOw13
namespace Go.Proofs.Ytelcfmjhbjnkoaa
open Go.RowKit

theorem takeI_rest {l : List Nat} {m : Nat} {x : It} {t : List Nat} (h8 : All8 l) (h : takeI (l.drop m) = some (x, t)) : t = l.drop (l.length - t.length) ∧ t.length < l.length - m := by
  obtain ⟨e, _, _, _, _, h6⟩ := takeI_form (h8.drop m) h
  rw [List.length_drop] at h6
  refine ⟨?_, h6⟩
  have h1 : t = (l.drop m).drop (encI x).length := by rw [e, List.drop_left' rfl]
  have h2 := congrArg List.length e
  rw [List.length_append, List.length_drop] at h2
  rw [List.drop_drop] at h1
  have h3 : m + (encI x).length = l.length - t.length := by omega
  rw [h3] at h1
  exact h1
theorem wpList_append_doc (w : World) {ops : Array Oper} {rest : List Oper} {o : Oper} {act : Act} {Q : Exit → Act → World → Prop} (hgd : o.guard = none) (s x : Operand)
    (ho : o.op = .call { callee := .builtin .append, args := #[s, x], argTypes := #[41, 41] })
    (base : Nat) (v : Value) (ys : List It) (hs : act.eval s = v) (hown : OwnD w base v ys) (y : It)
    (hx : act.eval x = .slice (some ⟨w.heap.size, 0, none⟩) 1 1)
    (hl : ys.length + 1 ≤ 1000000000) (hbase : base ≤ w.heap.size)
    (h : ∀ v' w', OwnD w' base v' (ys ++ [y]) → (w.alloc (.cells #[.int .i64 y.k, .bool y.b, .int .i64 y.n, .int .u64 (y.f : Int), .int .u64 (y.r : Int), .int .u64 (y.i : Int), .string y.t] 57)).grownBy w' v.ownBlock → (v'.ownBlock = v.ownBlock ∨ v'.ownBlock = some (w.heap.size + 1)) → wpList Try.prog ops Q rest (act.put o.dst v') w') :
    wpList Try.prog ops Q (o :: rest) act (w.alloc (.cells #[.int .i64 y.k, .bool y.b, .int .i64 y.n, .int .u64 (y.f : Int), .int .u64 (y.r : Int), .int .u64 (y.i : Int), .string y.t] 57)) := by
  obtain ⟨i0, hi, hz0, hz1, hz2⟩ := info_parts infoD
  have hone : ∀ u ∈ cellsD y, u.oneCell' = true := by simp [Value.oneCell']
  have hnews : ∀ j u, (cellsD y)[j]? = some u → (w.alloc (.cells #[.int .i64 y.k, .bool y.b, .int .i64 y.n, .int .u64 (y.f : Int), .int .u64 (y.r : Int), .int .u64 (y.i : Int), .string y.t] 57)).cell? ((⟨w.heap.size, 0, none⟩ : Addr).add j) = some u := fun j u hu => by
    rw [Addr.add_lit, cell_of_row _ _ _ _ _ _ (heap_alloc_new w _), Nat.zero_add]
    rw [← hu]
    exact List.getElem?_toArray
  have hown' : OwnD (w.alloc (.cells #[.int .i64 y.k, .bool y.b, .int .i64 y.n, .int .u64 (y.f : Int), .int .u64 (y.r : Int), .int .u64 (y.i : Int), .string y.t] 57)) base v ys := hown.below ((Below.refl _ _).alloc (Nat.le_refl _) _)
  refine wpList_append_own_at _ hgd s x 41 ho base 57 i0 _ 7 64 Try.underlying41 hi hz0 hz1 hz2 rfl (by omega) v ys.length (ys.flatMap cellsD) hs hown' ⟨w.heap.size, 0, none⟩ 1 1 (cellsD y) hx rfl hnews hone (by unfold maxLen; omega) (by omega) (by simp; omega) ?_
  intro v4 w4 hown4 hgrow4 hnil4 hat4
  exact h v4 w4 (by unfold OwnD; simpa using hown4) hgrow4 (by simpa using hat4)
theorem OwnD.ge {w : World} {base : Nat} {v : Value} {ys : List It} (h : OwnD w base v ys) {j : Nat} (hj : v.ownBlock = some j) : base ≤ j := (h.lt j hj).1

set_option maxRecDepth 100000 in
set_option maxHeartbeats 1000000 in
theorem rdecode_any (s : ByteArray) (w : World) (hl : s.size ≤ 140737488351232) :
    Calls Try.prog 12 #[.string s] w fun e w' => ∃ v, e = .returned (.tuple #[v, .int .i64 (decRes (strNat s)).2]) ∧ OwnD w' w.heap.size v (decRes (strNat s)).1 ∧ Below w.heap.size w w' := by
  have hsl : (strNat s).length = s.size := strNat_len s
  obtain ⟨res, hres⟩ : ∃ z, z = decRes (strNat s) := ⟨_, rfl⟩
  rw [← hres]
  have HRES := hide_it hres
  clear hres
  go_enter Try.func12, Try.ntmps12
  go_wp2_with fail
  go_loopw [4, 5] (fun v i wr => ∃ (ys : List It) (m : Nat), OwnD wr w.heap.size v ys ∧ i = .int .i64 (m : Int) ∧ m ≤ s.size ∧ Below w.heap.size w wr ∧ ys.length ≤ 64 ∧ Hid (decF 64 (strNat s) = (decF (64 - ys.length) ((strNat s).drop m)).map (fun zs => ys ++ zs))) (fun _ i _ => s.size - (intOf i).toNat)
  case atStart => exact ⟨[], 0, World.ownsRow_nil _ _ _ _, rfl, by omega, Below.refl _ _, by simp, by unfold Hid; simp⟩
  case round =>
    obtain ⟨ys, m, how, rfl, hms, hbl, hyl, hto⟩ := hrel
    have hbs := hbl.size
    by_cases hlt : m < s.size
    · have hd1 : decide ((m : Int) < (s.size : Int)) = true := by simp; omega
      have ho := fun w => rone_any s m w hlt hl
      have hrest := fun x t => takeI_rest (m := m) (x := x) (t := t) (strNat_all s)
      have hqp : 0 < ((strNat s).drop m).length := by simp; omega
      have HTO := hto
      clear hto
      obtain ⟨T, hT⟩ : ∃ T, takeI ((strNat s).drop m) = T := ⟨_, rfl⟩
      simp only [hT] at ho
      have HT := hide_it hT
      clear hT
      cases T with
      | none =>
        have hbad : Hid (res = ([], 41)) := by
          unfold Hid
          rw [HRES.out]
          unfold decRes
          rw [HTO.out]
          by_cases h64 : ys.length = 64
          · rw [h64, decF_zero hqp]; rfl
          · rw [show 64 - ys.length = (63 - ys.length) + 1 by omega, decF_nonempty hqp, HT.out]; rfl
        simp only [oneRes] at ho
        clear hrest hqp
        go_wp2_with fail
        refine (ho _).mono ?_
        rintro e w1 ⟨rfl, hb1⟩
        have hb2 := hbl.trans (hb1.mono hbs)
        have hbs2 := hb2.size
        clear ho hb1
        go_wp2_with fail
        go_ret2
        rw [hbad.out]
        exact ⟨_, rfl, World.ownsRow_nil _ _ _ _, hb2.alloc hbs2 _⟩
      | some xt =>
        obtain ⟨y, t⟩ := xt
        obtain ⟨hr1, hr2⟩ := hrest y t HT.out
        simp only [oneRes] at ho
        obtain ⟨m', hm'⟩ : ∃ m', m' = s.size - t.length := ⟨_, rfl⟩
        have hcm : ((s.size : Int) - (t.length : Int)) = (m' : Int) := by omega
        rw [hsl, ← hm'] at hr1
        rw [hcm] at ho
        have hmm : m < m' := by omega
        have hm's : m' ≤ s.size := by omega
        have HR1 := hide_it hr1
        clear hrest hr1 hr2 hm' hcm
        go_wp2_with fail
        refine (ho _).mono ?_
        rintro e w1 ⟨rfl, hb1⟩
        have hb2 := hbl.trans (hb1.mono hbs)
        have hbs2 := hb2.size
        have how1 := how.below hb1
        have hbA : Below w1.heap.size w1 (w1.alloc (.cells #[.int .i64 y.k, .bool y.b, .int .i64 y.n, .int .u64 (y.f : Int), .int .u64 (y.r : Int), .int .u64 (y.i : Int), .string y.t] 57)) := (Below.refl _ _).alloc (Nat.le_refl _) _
        have howA := how1.below hbA
        clear ho hb1 how
        obtain ⟨a1, cap1, hv1, hrow1, _, _⟩ := how1.row
        subst hv1
        by_cases h64 : ys.length = 64
        · have hbad : Hid (res = ([], 41)) := by
            unfold Hid
            rw [HRES.out]
            unfold decRes
            rw [HTO.out, h64, decF_zero hqp]; rfl
          have hd : ((ys.length : Int) == 64) = true := by simp; omega
          clear how1 howA hrow1
          go_wp2_with fail
          go_ret2
          rw [hbad.out]
          exact ⟨_, rfl, World.ownsRow_nil _ _ _ _, hb2.trans (hbA.mono hbs2)⟩
        · have hd : ((ys.length : Int) == 64) = false := by simp; omega
          have hbsA : w.heap.size ≤ (w1.alloc (.cells #[.int .i64 y.k, .bool y.b, .int .i64 y.n, .int .u64 (y.f : Int), .int .u64 (y.r : Int), .int .u64 (y.i : Int), .string y.t] 57)).heap.size := Nat.le_trans hbs2 hbA.size
          go_wp2_with (at_builtin; refine wpList_append_doc _ rfl _ _ rfl w.heap.size _ ys rfl howA y (by first | rfl | (show Value.slice (some ⟨_, 0, none⟩) 1 1 = _; simp)) (by omega) hbsA ?_; intro v4 w4 hown4 hg4 hat4)
          have hbA2 := hb2.trans (hbA.mono hbs2)
          have hbB : Below w.heap.size w w4 := (hbA2.alloc hbA2.size _).grown hg4 (by simp; omega) (fun j e => how1.ge e)
          go_roundw
          case rel =>
            refine ⟨ys ++ [y], m', hown4, rfl, hm's, hbB, by simp; omega, ?_⟩
            unfold Hid
            rw [HTO.out, show 64 - ys.length = (63 - ys.length) + 1 by omega, decF_nonempty hqp, HT.out]
            simp only [List.length_append, List.length_singleton]
            rw [show 64 - (ys.length + 1) = 63 - ys.length by omega, ← HR1.out]
            cases decF (63 - ys.length) t <;> simp
          case measure => simp [intOf]; omega
    · have hd1 : decide ((m : Int) < (s.size : Int)) = false := by simp; omega
      go_wp2_with fail
      go_ret2
      have hfin : res = (ys, 0) := by
        rw [HRES.out]
        unfold decRes
        rw [hto.out, List.drop_eq_nil_of_le (by omega), decF_nil]
        simp
      rw [hfin]
      exact ⟨_, rfl, how, hbl⟩

end Go.Proofs.Ytelcfmjhbjnkoaa
