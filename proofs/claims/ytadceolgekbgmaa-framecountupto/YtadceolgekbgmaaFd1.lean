/- The document's All, walked: a list of what it tells. -/
import Derived.Test.YtadceolgekbgmaaFw4
import Derived.Test.YtadceolgekbgmaaFi1
import Derived.Test.YtadceolgekbgmaaSl1
namespace Go.Proofs.Ytadceolgekbgmaa
open Go.RowKit

theorem infoFd : (Try.prog.info? 43).map (fun i => (i.zero, i.size, i.bytes)) = some (some (.agg #[.int .i64 0, .slice none 0 0]), 2, 32) := by kernel_rfl

/-- The cells of what is told. -/
def celF (xs : List Hand) : List Value := xs.flatMap fun x => [.int .i64 (x.1 : Int), x.2.1]
theorem celF_len (xs : List Hand) : (celF xs).length = xs.length * 2 := by
  induction xs with
  | nil => rfl
  | cons x r ih =>
    have e : celF (x :: r) = .int .i64 (x.1 : Int) :: x.2.1 :: celF r := rfl
    rw [e, List.length_cons, List.length_cons, ih, List.length_cons]; omega
theorem celF_snoc (xs : List Hand) (x : Hand) : celF (xs ++ [x]) = celF xs ++ [.int .i64 (x.1 : Int), x.2.1] := by simp [celF]
theorem celF_at : ∀ (xs : List Hand) (i : Nat) (x : Hand), xs[i]? = some x → (celF xs)[i * 2]? = some (.int .i64 (x.1 : Int)) ∧ (celF xs)[i * 2 + 1]? = some x.2.1 := by
  intro xs
  induction xs with
  | nil => intro i x h; simp at h
  | cons y r ih =>
    intro i x h
    have e : celF (y :: r) = .int .i64 (y.1 : Int) :: y.2.1 :: celF r := rfl
    cases i with
    | zero =>
      have : y = x := by simpa using h
      subst this
      exact ⟨rfl, rfl⟩
    | succ i =>
      have := ih i x (by simpa using h)
      rw [e, show (i + 1) * 2 = i * 2 + 2 by omega, show i * 2 + 2 + 1 = i * 2 + 1 + 2 by omega]
      exact this

/-- v is the document's list of what is told. -/
structure DocF (w : World) (base : Nat) (v : Value) (xs : List Hand) : Prop where
  list : OwnS w base 43 2 v xs.length (celF xs)
  each : ∀ x ∈ xs, OwnB w base x.2.1 x.2.2

/-- Bytes do not lie in a row of another type. -/
theorem OwnB.apart {w : World} {base base' : Nat} {v u : Value} {zs : List Nat} {e : TypeId} {sz n : Nat} {cs : List Value} (h : OwnB w base v zs) (k : OwnS w base' e sz u n cs) (he : e ≠ 5) : ∀ j, v.ownBlock = some j → u.ownBlock ≠ some j := by
  intro j hj hu
  obtain ⟨cur, hc⟩ := k.type hu
  rcases h.2 with ⟨rfl, _⟩ | ⟨g, cap, cur', rfl, _, hh, _⟩
  · cases hj
  · cases hj
    rw [hh] at hc
    cases hc
    exact he rfl
theorem OwnS.heap' {w w' : World} {base : Nat} {e : TypeId} {sz : Nat} {v : Value} {n : Nat} {xs : List Value} (h : OwnS w base e sz v n xs) (hk : ∀ j, v.ownBlock = some j → w'.heap[j]? = w.heap[j]?) : OwnS w' base e sz v n xs := h.keep hk
theorem DocF.below {w w' : World} {base : Nat} {v : Value} {xs : List Hand} (h : DocF w base v xs) (hb : Below w.heap.size w w') : DocF w' base v xs := ⟨h.list.below hb, fun x hx => (h.each x hx).below hb⟩
theorem ownF_empty (w : World) : OwnS (w.alloc (.cells #[] 43)) w.heap.size 43 2 (.slice (some ⟨w.heap.size, 0, none⟩) 0 0) 0 [] :=
  ⟨by simp, .inr ⟨w.heap.size, 0, 0, #[], rfl, Nat.le_refl _, heap_alloc_new w _, Nat.le_refl _, by simp [maxLen], by simp, fun i hi => by simp at hi⟩⟩
theorem srcF (w : World) (E : Nat) (a : Option Addr) (n c : Nat) : Src Try.prog 2 37 (.slice (some ⟨w.heap.size, 0, none⟩) 1 1) 1 [.int .i64 (E : Int), .slice a n c] (w.alloc (.cells #[.int .i64 (E : Int), .slice a n c] 43)) := by
  refine Src.ofSlice _ Try.underlying37 ⟨w.heap.size, 0, none⟩ 1 1 _ rfl (fun j u hu => ?_) (fun u hu => ?_)
  · rw [Addr.add_lit, cell_of_row _ _ _ _ _ _ (heap_alloc_new w _), Nat.zero_add]
    have : (#[.int .i64 (E : Int), .slice a n c] : Array Value)[j]? = [.int .i64 (E : Int), Value.slice a n c][j]? := by simp
    rw [this]; exact hu
  · simp at hu
    rcases hu with rfl | rfl <;> rfl
theorem DocF.snoc {w w1 : World} {base : Nat} {v v1 : Value} {xs : List Hand} {x : Hand} {o : Obj} (h : DocF w base v xs) (hx : OwnB w base x.2.1 x.2.2) (hs : OwnS w1 base 43 2 v1 (xs.length + 1) (celF xs ++ [.int .i64 (x.1 : Int), x.2.1])) (hg : (w.alloc o).grownBy w1 v.ownBlock) : DocF w1 base v1 (xs ++ [x]) := by
  have key : ∀ y : Hand, OwnB w base y.2.1 y.2.2 → OwnB w1 base y.2.1 y.2.2 := fun y hy => by
    refine hy.heap' fun j hj => ?_
    have hlt := hy.inside j hj
    rw [hg.block j (by simp; omega) (fun e => hy.apart h.list (by decide) j hj e.symm)]
    exact Below.heap_alloc _ _ _ hlt
  refine ⟨by rw [List.length_append, celF_snoc]; exact hs, fun y hy => ?_⟩
  rcases List.mem_append.1 hy with h1 | h1
  · exact key y (h.each y h1)
  · have : y = x := by simpa using h1
    subst this
    exact key y hx

set_option maxRecDepth 100000 in
set_option maxHeartbeats 2000000 in
theorem rall_any (a : Option Addr) (cap : Nat) (bs : List Nat) (w : World) (hr : RowB w a bs) (h8 : All8 bs) (hc : bs.length ≤ cap) (hm : cap ≤ maxLen) (hs : bs.length ≤ 1048576) (_hnil : a = none → bs.length = 0 ∧ cap = 0) :
    Calls Try.prog 16 #[.slice a bs.length cap] w fun e w' => (∃ v xs, e = .returned v ∧ xs.map tl = frs bs ∧ DocF w' w.heap.size v xs) ∧ Below w.heap.size w w' := by
  have hb0 : Below w.heap.size w (w.alloc (.cells #[] 43)) := (Below.refl _ _).alloc (Nat.le_refl _) _
  have ho0 := ownF_empty w
  go_enter Try.func16, Try.ntmps16
  go_wp2
  go_loopw [3, 4] (fun v i wr => ∃ (e : Nat) (xs : List Hand), e ≤ bs.length ∧ i = .int .i64 (e : Int) ∧ Hid (frs bs = xs.map tl ++ frsAt bs e) ∧ DocF wr w.heap.size v xs ∧ Below w.heap.size w wr) (fun _ i _ => bs.length - (intOf i).toNat)
  case atStart => exact ⟨0, [], Nat.zero_le _, rfl, rfl, ⟨ho0, fun x hx => by cases hx⟩, hb0⟩
  case round =>
    obtain ⟨e, xs, he, rfl, HF, hD, hbw⟩ := hrel
    clear ho0 hb0
    unfold maxLen at hm
    have hec : e ≤ cap := by omega
    have hrow := hr.below hbw
    obtain ⟨A, hA⟩ : ∃ A, A = if cap = e then a else a.map (fun x => x.add e) := ⟨_, rfl⟩
    have hAr : RowB wr A (bs.drop e) := by
      rw [hA]
      by_cases hce : cap = e
      · exact .inl (by rw [List.length_drop]; omega)
      · rw [if_neg hce]; exact ((RowLt.of_row hrow).drop e).row
    have hread := rread_any A (cap - e) (bs.drop e) wr hAr (h8.drop e) (by simp; omega) (by unfold maxLen; omega)
    rw [List.length_drop] at hread
    have hA2 := hA.symm
    have hz := hbw.size
    clear hAr hrow hA hr
    cases hR : rdF (bs.drop e) with
    | error c =>
      rw [hR] at hread
      have hc0 : ¬ (c : Int) = 0 := by
        have : c ≠ 0 := rdF_code hR
        omega
      have HE := hide_it (frsAt_stop hR)
      clear hR
      go_wp2_with (go_at_call 14; refine hread.mono ?_)
      rintro e1 w1 ⟨he1, hb1⟩
      have he1' : e1 = .returned (.tuple #[.slice none 0 0, .int .i64 0, .int .i64 (c : Int)]) := he1
      subst he1'
      have hD1 := hD.below hb1
      clear he1 hread hD
      go_wp2
      go_ret
      exact ⟨⟨_, xs, rfl, by rw [HF.out, HE.out, List.append_nil], hD1⟩, hbw.trans (hb1.mono hz)⟩
    | ok m =>
      rw [hR] at hread
      have hm9 : e + (m + 9) ≤ bs.length := by
        have h := (rdF_ok hR).2.2.2.1
        rw [List.length_drop] at h
        omega
      obtain ⟨M, hM⟩ : ∃ M, M = m + 9 := ⟨_, rfl⟩
      rw [← hM] at hm9
      obtain ⟨E, hE⟩ : ∃ E, E = e + M := ⟨_, rfl⟩
      have hem := hide_it (show IntKind.i64.wrap ((e : Int) + (M : Int)) = (E : Int) by rw [i64_in (by omega) (by omega), hE]; simp)
      have hEl := hide_it (show E ≤ bs.length by omega)
      have hME := hide_it (show e < E by omega)
      have HE : Hid (frs bs = xs.map tl ++ (e + (m + 9), ((bs.drop e).drop 5).take m) :: frsAt bs (e + (m + 9))) := by
        have h := HF.out
        rwa [frsAt_step hR] at h
      replace hm9 := hide_it hm9
      replace hM := hide_it hM
      replace hE := hide_it hE
      clear hR
      go_wp2_with (go_at_call 14; refine hread.mono ?_)
      rintro e1 w1 ⟨⟨v1, he1, ho1⟩, hb1⟩
      rw [← hM.out] at he1
      subst he1
      rw [← hM.out, ← hE.out] at HE
      obtain ⟨a1, c1, hv1, _⟩ := ho1.row
      generalize hPy : ((bs.drop e).drop 5).take m = Py at *
      subst hv1
      replace hem := hem.out
      replace hEl := hEl.out
      replace hME := hME.out
      have hD1 := hD.below hb1
      have hx1 : OwnB w1 w.heap.size (.slice a1 Py.length c1) Py := ho1.mono hz
      have hbw1 := hbw.trans (hb1.mono hz)
      have hz1 := hbw1.size
      have hxl : xs.length ≤ 1048576 := by
        have h1 := frs_len bs
        have h2 := congrArg List.length HE.out
        simp at h2
        omega
      have hla : OwnS (w1.alloc (.cells #[.int .i64 (E : Int), .slice a1 Py.length c1] 43)) w.heap.size 43 2 u3 xs.length (celF xs) := hD1.list.alloc _
      have hsr := srcF w1 E a1 Py.length c1
      have hm1 : xs.length + 1 ≤ maxLen := by unfold maxLen; omega
      have hby : ((xs.length + 1) + (xs.length + 1) / 4 + 192) * 32 ≤ 281474976710656 := by omega
      have hz1' : w.heap.size ≤ (w1.alloc (.cells #[.int .i64 (E : Int), .slice a1 Py.length c1] 43)).heap.size := by simp; omega
      have HS := hide_it (fun v2 w2 ho hg => (DocF.snoc (x := (E, .slice a1 Py.length c1, Py)) (v1 := v2) (w1 := w2) (o := .cells #[.int .i64 (E : Int), .slice a1 Py.length c1] 43) hD1 hx1 ho hg))
      clear hread hD hD1 hA2 ho1 hx1 hM hE HF hm9
      go_wp2_with (at_builtin; refine wpList_append_S rfl _ _ 37 37 rfl _ Try.underlying37 infoFd rfl rfl hla _ rfl 1 _ hsr hm1 hby hz1' ?_; intro v2 w2 ho2 hg2 hat2)
      have hD2 := HS.out v2 w2 ho2 hg2
      have hbw2 : Below w.heap.size w w2 := (hbw1.alloc hz1 _).grown hg2 hz1' (fun j e => (hla.inside j e).1)
      go_roundw
      case rel => exact ⟨E, _, hEl, rfl, (by show _ = _; rw [HE.out]; simp [tl]), hD2, hbw2⟩
      case measure => simp [intOf]; omega

end Go.Proofs.Ytadceolgekbgmaa
