/- The law on rows of frames, walked. -/
import Derived.Test.YtadceolgekbgmabFv1
import Derived.Maps.OwnIn
namespace Go.Proofs.Ytadceolgekbgmab
open Go.RowKit Go.Shelf

theorem wpListIn_append_rowB {F : Fence} {nF : Nat} (w : World) {ops : Array Oper} {rest : List Oper} {o : Oper} {act : Act} {Q : Exit → Act → World → Prop} (hgd : o.guard = none) (s x : Operand)
    (ho : o.op = .call { callee := .builtin .append, args := #[s, x], argTypes := #[22, 22] })
    (base : Nat) (v : Value) (xs : List Nat) (hs : act.eval s = v) (hown : OwnB w base v xs) (ad : Addr) (cap : Nat) (zs : List Nat) (hx : act.eval x = .slice (some ad) zs.length cap) (hr : RowB w (some ad) zs)
    (hl : xs.length + zs.length ≤ 140737488355328) (hbase : base ≤ w.heap.size)
    (h : ∀ v' w', OwnB w' base v' (xs ++ zs) → w.grownBy w' v.ownBlock → (v'.ownBlock = v.ownBlock ∨ v'.ownBlock = some w.heap.size) → wpListIn F nF Try.prog ops Q rest (act.put o.dst v') w') :
    wpListIn F nF Try.prog ops Q (o :: rest) act w := by
  obtain ⟨i0, hi, hz0, hz1, hz2⟩ := info_parts infoB
  have hnews : ∀ j u, (zs.map encB)[j]? = some u → w.cell? (ad.add j) = some u := fun j u hu => by
    have hj : j < zs.length := by have := (List.getElem?_eq_some_iff.1 hu).1; simpa using this
    obtain ⟨b, o, e, hlt, hc⟩ := hr.here hj
    cases e
    rw [Addr.add_lit, hc j hj]
    exact (mapB_at hj).symm.trans hu
  have hone : ∀ u ∈ zs.map encB, u.oneCell' = true := fun u hu => by
    obtain ⟨z, _, rfl⟩ := List.mem_map.1 hu
    rfl
  refine wpListIn_append_own_at _ hgd s x 22 ho base 5 i0 (.int .u8 0) 1 1 Try.underlying22 hi hz0 hz1 hz2 rfl (by omega) v xs.length (xs.map encB) hs hown ad zs.length cap (zs.map encB) hx (by simp) hnews hone (by unfold maxLen; omega) (by omega) hbase ?_
  intro v4 w4 hown4 hgrow4 hnil4 hat4
  exact h v4 w4 (by unfold OwnB; simpa using hown4) hgrow4 hat4

theorem infoI : (Try.prog.info? 3).map (fun i => (i.zero, i.size, i.bytes)) = some (some (.int .i64 0), 1, 8) := by kernel_rfl
/-- A number as a value. -/
def encE (n : Nat) : Value := .int .i64 (n : Int)
/-- Where the frames end. -/
def endsP (k : Nat) (A : Nat → Pc) : List Nat := (stepsOf 0 (payP k A)).map Prod.fst
theorem endsP_len (k : Nat) (A : Nat → Pc) : (endsP k A).length = k := by simp [endsP, stepsOf_len, payP_len]
theorem endsP_succ (k : Nat) (A : Nat → Pc) : endsP (k + 1) A = endsP k A ++ [(rowOf (payP (k + 1) A)).length] := by
  unfold endsP
  rw [payP_succ, stepsOf_snoc]
  simp
theorem ownsRow_same {w w' : World} {base : Nat} {e : TypeId} {sz : Nat} {v : Value} {n : Nat} {xs : List Value} (h : w.ownsRow base e sz v n xs) (hk : ∀ j, v.ownBlock = some j → w'.heap[j]? = w.heap[j]?) : w'.ownsRow base e sz v n xs := by
  refine ⟨h.1, ?_⟩
  rcases h.2 with h2 | ⟨g, cap, cur, rfl, h3, hh, h4⟩
  · exact .inl h2
  · exact .inr ⟨g, cap, cur, rfl, h3, (hk g rfl).trans hh, h4⟩
theorem ownsRow_in {w : World} {base : Nat} {e : TypeId} {sz : Nat} {v : Value} {n : Nat} {xs : List Value} (h : w.ownsRow base e sz v n xs) {j : Nat} (hj : v.ownBlock = some j) : base ≤ j ∧ j < w.heap.size ∧ ∃ cur, w.heap[j]? = some (.cells cur e (0, 0)) := by
  rcases h.2 with ⟨rfl, _⟩ | ⟨g, cap, cur, rfl, h3, hh, h4⟩
  · cases hj
  · cases hj; exact ⟨h3, (Array.getElem?_eq_some_iff.1 hh).1, cur, hh⟩
/-- Rows of two types do not meet. -/
theorem ownsRow_apart {w : World} {b b' : Nat} {e e' : TypeId} {sz sz' : Nat} {v v' : Value} {n n' : Nat} {xs xs' : List Value} (h : w.ownsRow b e sz v n xs) (h' : w.ownsRow b' e' sz' v' n' xs') (he : e ≠ e') {j : Nat} (hj : v.ownBlock = some j) : v'.ownBlock ≠ some j := fun hj' => by
  obtain ⟨_, _, c, hc⟩ := ownsRow_in h hj
  obtain ⟨_, _, c', hc'⟩ := ownsRow_in h' hj'
  rw [hc] at hc'
  cases hc'
  exact he rfl
/-- A row of numbers, thing by thing. -/
theorem ownE_at {w : World} {base : Nat} {v : Value} {n : Nat} {es : List Nat} (h : w.ownsRow base 3 1 v n (es.map encE)) : ∃ a cap, v = .slice a n cap ∧ n ≤ cap ∧ cap ≤ maxLen ∧ ∀ i, i < n → ∃ g, a = some ⟨g, 0, none⟩ ∧ g < w.heap.size ∧ w.cell? ⟨g, i, none⟩ = some (.int .i64 ((at0 es i : Nat) : Int)) := by
  have hl : es.length = n := by simpa using h.1
  rcases h.2 with ⟨rfl, h0⟩ | ⟨g, cap, cur, rfl, _, hh, hn, hm, _, ht⟩
  · exact ⟨none, 0, by rw [h0], by omega, by simp [maxLen], fun i hi => by omega⟩
  · refine ⟨_, cap, rfl, hn, hm, fun i hi => ⟨g, rfl, (Array.getElem?_eq_some_iff.1 hh).1, ?_⟩⟩
    rw [cell_of_row _ _ _ _ _ _ hh]
    have h3 : (cur.toList.take (n * 1))[i]? = (es.map encE)[i]? := by rw [ht]
    rw [List.getElem?_take_of_lt (by omega)] at h3
    rw [← Array.getElem?_toList, h3, List.getElem?_map, List.getElem?_eq_getElem (by omega), at0_get (by omega)]
    rfl

/-- A beginning of a row of frames, and what is told of it. -/
structure Beg (n : Nat) (A : Nat → Pc) (L : Nat) (T : List Nat) (c : Nat) : Prop where
  len : T.length = L
  all : All8 T
  le : c ≤ n
  flen : (frs T).length = c
  at_ : ∀ i, i < c → (frs T)[i]? = some (at0 (endsP n A) i, (A i).p)
  in_ : ∀ i, i < c → at0 (endsP n A) i ≤ L
  out : c < n → L < at0 (endsP n A) c
theorem beg_any (n : Nat) (A : Nat → Pc) (hp : ∀ i, i < n → All8 (A i).p ∧ (A i).p.length ≤ 65536) (L : Nat) (hL : L ≤ (rowOf (payP n A)).length) : Beg n A L ((rowOf (payP n A)).take L) (cntR L (payP n A)) := by
  have hpp : ∀ p ∈ payP n A, All8 p ∧ p.length ≤ 65536 := fun p hp' => by
    obtain ⟨i, hi, rfl⟩ := List.mem_map.1 hp'
    exact hp i (List.mem_range.1 hi)
  have hf := frs_begin hpp hL
  have hle := cntR_le L (payP n A)
  rw [payP_len] at hle
  have hsl : (stepsOf 0 (payP n A)).length = n := by rw [stepsOf_len, payP_len]
  have hst : ∀ i, i < n → (stepsOf 0 (payP n A))[i]? = some (at0 (endsP n A) i, (A i).p) := fun i hi => by
    have h1 : (stepsOf 0 (payP n A))[i]? = some ((stepsOf 0 (payP n A))[i]'(by omega)) := List.getElem?_eq_getElem (by omega)
    have h2 := congrArg (fun l : List (List Nat) => l[i]?) (stepsOf_pay 0 (payP n A))
    simp only [List.getElem?_map, h1, payP_at n A hi, Option.map_some, Option.some.injEq] at h2
    have h3 : at0 (endsP n A) i = ((stepsOf 0 (payP n A))[i]'(by omega)).1 := by
      unfold at0 endsP
      rw [List.getD_eq_getElem?_getD, List.getElem?_map, h1]; rfl
    rw [h1, h3, ← h2]
  refine ⟨by rw [List.length_take]; omega, (rowOf_all (fun p h => (hpp p h).1)).take _, hle, by rw [hf, List.length_take]; omega, fun i hi => ?_, fun i hi => ?_, fun hc => ?_⟩
  · rw [hf, List.getElem?_take_of_lt hi]; exact hst i (by omega)
  · have := cntR_in (payP n A) 0 L i _ hi (hst i (by omega))
    simpa using this
  · have := cntR_out (payP n A) 0 L _ (hst _ hc)
    simpa using this
theorem Beg.last {n : Nat} {A : Nat → Pc} {L : Nat} {T : List Nat} {c : Nat} (h : Beg n A L T (c + 1)) : lastE (frs T) = at0 (endsP n A) c := by
  have := lastE_take (h.at_ c (by omega))
  rwa [List.take_of_length_le (by rw [h.flen]; omega)] at this
theorem Beg.none {n : Nat} {A : Nat → Pc} {L : Nat} {T : List Nat} (h : Beg n A L T 0) : lastE (frs T) = 0 := by
  rw [List.eq_nil_of_length_eq_zero h.flen]; rfl
end Go.Proofs.Ytadceolgekbgmab

namespace Go.Proofs.Ytadceolgekbgmab.frameRow
open Go.RowKit Go.Shelf

attribute [local go_sem] Oper.semAt_some

set_option maxRecDepth 100000 in
set_option maxHeartbeats 4000000 in
theorem walk (a : Option Addr) (n cap : Nat) (A : Nat → Pc) (lf : Int) (hlf : -9223372036854775808 ≤ lf ∧ lf ≤ 9223372036854775807) (w : World) (hc : CameP w a n A) :
    Calls Try.prog 7 #[.slice a n cap, .int .i64 lf] w fun e w' => e = .returned (.bool true) ∧ Below w.heap.size w w' := by
  obtain ⟨hlf1, hlf2⟩ := hlf
  have hfn : ∀ (fn : Fn) (a b : Array Value) (w : World), (binOp .eql 40 (.func fn a b) .nilFunc).run Try.prog w = .ok (.bool false) w := fun _ _ _ _ => rfl
  obtain ⟨w0, hw0⟩ : ∃ w0, w0 = (w.alloc (.cells #[.slice a n cap] 36)).alloc (.cells #[.bool false] 4) := ⟨_, rfl⟩
  have hb0 : Below w.heap.size w w0 := by rw [hw0]; exact ((Below.refl _ w).alloc (Nat.le_refl _) _).alloc (by simp) _
  have hz0 : w.heap.size + 1 < w0.heap.size := by rw [hw0]; simp
  have bR0 : Boxed w0 (w.heap.size + 1) 4 (.bool false) := by
    have := Boxed.new (w.alloc (.cells #[.slice a n cap] 36)) 4 (.bool false)
    rw [hw0]; simpa using this
  have bP0 : Boxed w0 w.heap.size 36 (.slice a n cap) := by rw [hw0]; exact (Boxed.new w _ _).alloc _
  have hc0 : CameP w0 a n A := ⟨hc.row.below hb0, hc.size, fun i hi => (hc.each i hi).below hb0⟩
  have hva := vast_any a n cap A w0 hc0 _ rfl
  have q0 := bP0.cell
  have q1 := bR0.cell
  have f1 := bR0.frozen
  have early : ∀ (W : World), Boxed W (w.heap.size + 1) 4 (.bool false) → Below w.heap.size w W → ∀ act : Act, act.eval (.tmp 4) = .pointer (some ⟨w.heap.size + 1, 0, none⟩) → act.defers = [] →
      bodyPostM Fence.wide 3 Try.prog Try.f7 (fun e w' => e = .returned (.bool true) ∧ Below w.heap.size w w') .ret act (W.setCell ⟨w.heap.size + 1, 0, none⟩ (.bool true)) := fun W hb hbe act ha hd => by
    have y0 := (hb.set (.bool true)).cell
    obtain ⟨tmps, defers⟩ := act
    cases hd
    have ht : tmps[4]?.getD undef = .pointer (some ⟨w.heap.size + 1, 0, none⟩) := by rw [← Array.getD_eq_getD_getElem?]; exact ha
    refine ⟨.bool true, ?_, rfl, hbe.setCell (p := ⟨w.heap.size + 1, 0, none⟩) (by simp) _⟩
    simp [results, Try.results7, go_sem, y0, ht]
  refine (callsIn_wide (n := 3)).1 ?_
  refine callsIn_of_wp_marks Try.func7 rfl trivial ?_ rfl
  simp only [Try.ntmps7, List.size_toArray, List.length_cons, List.length_nil, Nat.reduceAdd, Nat.reduceSub, Array.replicate_succ, Array.replicate_zero, List.push_toArray, List.append_toArray, List.nil_append, List.cons_append]
  gi_wp2_with fail
  rw [← hw0]
  clear hw0
  refine ⟨trivial, (callsIn_wide.2 hva).mono ?_⟩
  rintro e w1 ⟨rfl, hq⟩
  have hq2 := hq.symm
  subst hq2
  clear hq hva
  by_cases hv : 1073741824 < totP (payP n A)
  · rw [decide_eq_true hv]
    gi_wp2_with fail
    exact early w0 bR0 hb0 _ rfl rfl
  rw [decide_eq_false hv]
  have hh := head_any w0
  have hT : totP (payP n A) ≤ 1073741824 := by omega
  gi_wp2_with fail
  refine ⟨trivial, (callsIn_wide.2 hh).mono ?_⟩
  rintro e w1 ⟨rfl, hb1⟩
  have hz1 := hb1.size
  have hbw1 := hb0.trans (hb1.mono (by omega))
  have bR1 : Boxed w1 (w.heap.size + 1) 4 (.bool false) := bR0.kept (grown_none hb1) (by simp)
  have bP1 : Boxed w1 w.heap.size 36 (.slice a n cap) := bP0.kept (grown_none hb1) (by simp)
  have hc1 : CameP w1 a n A := ⟨hc0.row.below hb1, hc0.size, fun i hi => (hc0.each i hi).below hb1⟩
  have q0 := bP1.cell
  have q1 := bR1.cell
  have f1 := bR1.frozen
  clear hh bR0 bP0 hb0 hb1 hc0 hc
  by_cases hfit : ∀ i, i < n → (A i).p.length ≤ 65536
  case neg =>
    have hft := fits_any a n cap A w1 hc1 false (by simpa using hfit)
    gi_wp2_with fail
    refine ⟨trivial, (callsIn_wide.2 hft).mono ?_⟩
    rintro e w2 ⟨rfl, hq⟩
    have hq2 := hq.symm
    subst hq2
    clear hq hft
    gi_wp2_with fail
    exact early w1 bR1 hbw1 _ rfl rfl
  have hft := fits_any a n cap A w1 hc1 true (by simpa using hfit)
  gi_wp2_with fail
  refine ⟨trivial, (callsIn_wide.2 hft).mono ?_⟩
  rintro e w2 ⟨rfl, hq⟩
  have hq2 := hq.symm
  subst hq2
  clear hq hft
  -- the row and the ends
  obtain ⟨w3, hw3⟩ : ∃ w3, w3 = ((w1.alloc (.cells #[] 5)).alloc (.cells #[] 3)).alloc (.cells #[.slice (some ⟨w1.heap.size + 1, 0, none⟩) 0 0] 38) := ⟨_, rfl⟩
  have hb3 : Below w1.heap.size w1 w3 := by rw [hw3]; exact (((Below.refl _ w1).alloc (Nat.le_refl _) _).alloc (by simp) _).alloc (by simp; omega) _
  have hz3 : w3.heap.size = w1.heap.size + 1 + 1 + 1 := by rw [hw3]; simp
  have bE3 : Boxed w3 (w1.heap.size + 1 + 1) 38 (.slice (some ⟨w1.heap.size + 1, 0, none⟩) 0 0) := by
    have := Boxed.new ((w1.alloc (.cells #[] 5)).alloc (.cells #[] 3)) 38 (.slice (some ⟨w1.heap.size + 1, 0, none⟩) 0 0)
    rw [hw3]; simpa using this
  have oR3 : OwnB w3 w1.heap.size (.slice (some ⟨w1.heap.size, 0, none⟩) 0 0) [] := by
    refine (own_empty w1).below ?_
    rw [hw3]
    exact ((Below.refl _ _).alloc (Nat.le_refl _) _).alloc (by simp) _
  have oE3 : w3.ownsRow w1.heap.size 3 1 (.slice (some ⟨w1.heap.size + 1, 0, none⟩) 0 0) 0 [] := by
    refine ⟨rfl, .inr ⟨w1.heap.size + 1, 0, #[], rfl, by omega, ?_, Nat.le_refl _, by simp [maxLen], rfl, rfl⟩⟩
    rw [hw3, Below.heap_alloc _ _ _ (by simp)]
    have := heap_alloc_new (w1.alloc (.cells #[] 5)) (.cells #[] 3)
    simpa using this
  have bP3 : Boxed w3 w.heap.size 36 (.slice a n cap) := bP1.kept (grown_none hb3) (by simp)
  have q03 := bP3.cell
  rw [hw3] at q03
  have hlt1 : w.heap.size + 1 < w1.heap.size := by omega
  have hrl := rowOf_len (payP n A)
  have htl := totP_len (payP n A)
  rw [payP_len] at htl
  gi_wp2_with fail
  rw [← hw3]
  clear hw3 q03 bP3 q0 q1 f1
  gi_loopw [5, 29] (fun r i wr => ∃ (k : Nat) (ve : Value), k ≤ n ∧ i = .int .i64 (k : Int) ∧ Hid (OwnB wr w1.heap.size r (rowOf (payP k A))) ∧ Hid (Boxed wr (w1.heap.size + 1 + 1) 38 ve) ∧ Hid (wr.ownsRow w1.heap.size 3 1 ve k ((endsP k A).map encE)) ∧ Hid (Below w1.heap.size w1 wr)) (fun _ i _ => n - (intOf i).toNat)
  case atStart => exact ⟨0, _, by omega, rfl, oR3, bE3, oE3, hb3⟩
  case round =>
    obtain ⟨k, ve, hk, rfl, HR, HE, HO, HB⟩ := hrel
    clear bE3 oR3 oE3 hb3 hz3
    have hzr := HB.out.size
    by_cases hlt : k < n
    · have hki : (k : Int) < (n : Int) := by omega
      obtain ⟨b0, o0, rfl, hb0, hcell⟩ := (hc1.row.below HB.out).here hlt
      have hok := (hc1.each k hlt).below HB.out
      have hcp := copied_any (A k).a (A k).c (A k).p wr hok.row (by have := hok.size; omega) hok.none
      have h8 := hok.all
      have h65 := hfit k hlt
      have HRS := hide_it (show rowOf (payP (k + 1) A) = rowOf (payP k A) ++ frm (A k).p by rw [payP_succ, rowOf_snoc])
      have HES := hide_it (endsP_succ k A)
      have hmon := payP_mono A (show k + 1 ≤ n by omega)
      have hrk := rowOf_len (payP (k + 1) A)
      have hns := hc1.size
      clear hok
      generalize A k = P at *
      gi_wp2_with fail
      refine ⟨trivial, (callsIn_wide.2 hcp).mono ?_⟩
      rintro e w4 ⟨⟨r4, rfl, ho4⟩, hb4⟩
      obtain ⟨p4, q4, hv4, hp4, _, _, hn4⟩ := ho4.row
      subst hv4
      have hmk := make_ok p4 q4 P.p w4 hp4 h8 h65 hn4
      have hz4 := hb4.size
      clear hcp ho4 hp4
      gi_wp2_with fail
      refine ⟨trivial, (callsIn_wide.2 hmk).mono ?_⟩
      rintro e w5 ⟨⟨v5, rfl, ho5⟩, hb5⟩
      have hz5 := hb5.size
      have hF9 := hide_it (frm_len P.p)
      generalize frm P.p = F at *
      obtain ⟨g5, cur5, e5, _, _, _, _⟩ : ∃ (g : Nat) (c : Nat), v5 = .slice (some ⟨g, 0, none⟩) F.length c ∧ True ∧ True ∧ True ∧ True := by
        rcases ho5.2 with ⟨_, h0⟩ | ⟨g, c, cur, e, _⟩
        · have := hF9.out; omega
        · exact ⟨g, c, e, trivial, trivial, trivial, trivial⟩
      subst e5
      obtain ⟨a5, c5, e5, hr5, _⟩ := ho5.row
      cases e5
      have hb45 := hb4.trans (hb5.mono hz4)
      have oR5 : OwnB w5 w1.heap.size u5 (rowOf (payP k A)) := HR.out.below hb45
      have bE5 : Boxed w5 (w1.heap.size + 1 + 1) 38 ve := HE.out.kept (grown_none hb45) (by simp)
      have oE5 : w5.ownsRow w1.heap.size 3 1 ve k ((endsP k A).map encE) := ownsRow_same HO.out (fun j hj => hb45.block j (ownsRow_in HO.out hj).2.1)
      have hB5 := HB.out.trans (hb45.mono hzr)
      obtain ⟨i0, hi, hz0', hz1', hz2'⟩ := info_parts infoI
      have hl5 : (rowOf (payP k A)).length + F.length ≤ 140737488355328 := by
        have h := congrArg List.length HRS.out
        rw [List.length_append] at h
        omega
      have hB1 : w1.heap.size ≤ w5.heap.size := hB5.size
      clear hmk HR HE HO HB
      gi_wp2_with (first | (gi_at_builtin; refine wpListIn_append_rowB _ rfl _ _ rfl w1.heap.size _ _ rfl oR5 ⟨g5, 0, none⟩ cur5 F rfl hr5 hl5 hB1 ?_; intro v6 w6 ho6 hg6 hat6; rw [← HRS.out] at ho6; obtain ⟨p6, q6, hv6, _, _, _, _⟩ := ho6.row; subst hv6; have bE6 : Boxed w6 (w1.heap.size + 1 + 1) 38 ve := bE5.kept hg6 (bE5.not_row (by decide) oR5); have oE6 : w6.ownsRow w1.heap.size 3 1 ve k ((endsP k A).map encE) := ownsRow_same oE5 (fun j hj => hg6.block j (ownsRow_in oE5 hj).2.1 (fun e => ownsRow_apart oE5 oR5 (by decide) hj e.symm)); have cE6 := bE6.cell; have fE6 := bE6.frozen; have hz6 := hg6.size; have hB6 : Below w1.heap.size w1 w6 := hB5.grown hg6 hB1 (fun j e => oR5.ge e); have hRl : (rowOf (payP (k + 1) A)).length ≤ 9663676416 := by omega) | (gi_at_builtin; refine wpListIn_append_own_at _ rfl _ _ 38 rfl w1.heap.size 3 i0 (.int .i64 0) 1 8 Try.underlying38 hi hz0' hz1' hz2' rfl (by decide) _ _ _ rfl (oE6.alloc _) ⟨w6.heap.size, 0, none⟩ 1 1 [.int .i64 (((rowOf (payP (k + 1) A)).length : Nat) : Int)] rfl rfl (cell_one_new _ _ _) (by simp [Value.oneCell']) (by unfold maxLen; omega) (by omega) (by simp; omega) ?_; intro v7 w7 ho7 hg7 _ hat7; obtain ⟨g7, c7, rfl⟩ := ownsRow_succ ho7; obtain ⟨bE7, bE8, oE8, hk8, hb8⟩ := bE6.appended (by decide) oE6 (by omega) (by omega) ho7 hg7; have cE7 := bE7.cell; have fE7 := bE7.frozen))
      have oR8 : OwnB (w7.setCell ⟨w1.heap.size + 1 + 1, 0, none⟩ (.slice (some ⟨g7, 0, none⟩) (k + 1) c7)) w1.heap.size (.slice p6 (rowOf (payP (k + 1) A)).length q6) (rowOf (payP (k + 1) A)) := by
        refine ho6.heap' fun j hj => ?_
        have hlt6 := ho6.inside j hj
        have hne : j ≠ w1.heap.size + 1 + 1 := fun e => by
          have := bE6.not_row (by decide) ho6
          rw [hj, e] at this
          exact this rfl
        rw [Below.heap_setCell _ _ _ _ (by simpa using hne), hg7.block j (by simp; omega) (fun e => ownsRow_apart ho6 oE6 (by decide) hj e.symm), Below.heap_alloc _ _ _ hlt6]
      have oE9 : (w7.setCell ⟨w1.heap.size + 1 + 1, 0, none⟩ (.slice (some ⟨g7, 0, none⟩) (k + 1) c7)).ownsRow w1.heap.size 3 1 (.slice (some ⟨g7, 0, none⟩) (k + 1) c7) (k + 1) ((endsP (k + 1) A).map encE) := by
        rw [HES.out, List.map_append]
        exact oE8
      have hB8 := hB6.trans hb8
      go_roundw
      case rel => exact ⟨k + 1, _, by omega, by go_num, oR8, bE8, oE9, hB8⟩
      case measure => simp [intOf]; omega
    · have hkn : k = n := by omega
      subst hkn
      have hpp : ∀ i, i < k → All8 (A i).p ∧ (A i).p.length ≤ 65536 := fun i hi => ⟨(hc1.each i hi).all, hfit i hi⟩
      have hbeg := beg_any k A hpp
      obtain ⟨pr, qr, hvr, hrow, hrc, hrm, hrn⟩ := HR.out.row
      subst hvr
      obtain ⟨pe, qe, hve, hec, hem, hE⟩ := ownE_at HO.out
      subst hve
      have bR := bR1.kept (grown_none HB.out) (by simp)
      have bP := bP1.kept (grown_none HB.out) (by simp)
      have hcr : CameP wr a k A := ⟨hc1.row.below HB.out, hc1.size, fun i hi => (hc1.each i hi).below HB.out⟩
      have hbwr := hbw1.trans (HB.out.mono hbw1.size)
      have hRl : (rowOf (payP k A)).length ≤ 9663676416 := by omega
      have bE := HE.out
      have hns := hc1.size
      unfold maxLen at hrm hem
      clear HR HE HO HB bR1 bP1 hc1 hbw1 hrl htl hpp
      generalize rowOf (payP k A) = R at *
      obtain ⟨L, hL, hcs⟩ : ∃ L : Nat, L ≤ R.length ∧ ((lf < 0 ∧ L = R.length) ∨ ((0 ≤ lf ∧ (R.length : Int) < lf) ∧ L = R.length) ∨ (0 ≤ lf ∧ lf = (L : Int))) := by
        by_cases h1 : lf < 0
        · exact ⟨R.length, Nat.le_refl _, .inl ⟨h1, rfl⟩⟩
        · by_cases h2 : (R.length : Int) < lf
          · exact ⟨R.length, Nat.le_refl _, .inr (.inl ⟨⟨by omega, h2⟩, rfl⟩)⟩
          · exact ⟨lf.toNat, by omega, .inr (.inr ⟨by omega, by omega⟩)⟩
      obtain ⟨hT⟩ : Nonempty (Beg k A L (R.take L) (cntR L (payP k A))) := ⟨hbeg L hL⟩
      have hTr := ((RowLt.of_row hrow).take L).row
      have hTl := hT.len
      have hcp := copied_any pr qr (R.take L) wr hTr (by omega) (fun e => by have := hrn e; omega)
      rw [hTl] at hcp
      generalize cntR L (payP k A) = c at *
      generalize R.take L = T at *
      replace hT := hide_it hT
      replace hTl := hide_it hTl
      clear hbeg
      have hLq : L ≤ qr := by omega
      rcases hcs with ⟨h1, rfl⟩ | ⟨⟨h1, h2⟩, rfl⟩ | ⟨h1, rfl⟩
      all_goals
        gi_wp2_with fail
        refine ⟨trivial, (callsIn_wide.2 hcp).mono ?_⟩
        rintro e w4 ⟨⟨r4, rfl, ho4⟩, hb4⟩
        obtain ⟨p4, q4, hv4, hp4, _, _, hn4⟩ := ho4.row
        subst hv4
        have hall := all_any p4 q4 T w4 hp4 (by have := hTl.out; omega) hn4
        have hz4 := hb4.size
        clear ho4 hp4
        gi_wp2_with fail
        refine ⟨trivial, (callsIn_wide.2 hall).mono ?_⟩
        rintro e w5 ⟨v6, Bq, rfl, hbx, hown, hBq, hb5⟩
        have hz5 := hb5.size
        have hb05 := hb4.trans (hb5.mono hz4)
        obtain ⟨w6, hw6⟩ : ∃ w6, w6 = w5.alloc (.cells #[.int .i64 0] 3) := ⟨_, rfl⟩
        have hb6 : Below w5.heap.size w5 w6 := by rw [hw6]; exact (Below.refl _ _).alloc (Nat.le_refl _) _
        have hz6 : w6.heap.size = w5.heap.size + 1 := by rw [hw6]; simp
        have bN6 : Boxed w6 w5.heap.size 3 (.int .i64 ((0 : Nat) : Int)) := by rw [hw6]; exact Boxed.new w5 _ _
        have hbx6 : Boxed w6 Bq 22 v6 := hbx.kept (grown_none hb6) (by simp)
        have hown6 := hown.below hb6
        have hBl := hbx.lt
        have hvl := hown.inside
        have hbxl := hbx6.lt
        have hvl6 := hown6.inside
        have hLr : T.length ≤ 9663676416 := by have := hTl.out; omega
        have hE5 : w1.heap.size + 1 + 1 < wr.heap.size := bE.lt
        have hP5 : w.heap.size < wr.heap.size := bP.lt
        have hR5 : w.heap.size + 1 < wr.heap.size := bR.lt
        clear hall hbx hown
        gi_wp2_with fail
        rw [← hw6]
        clear hw6
        generalize hact : ({ tmps := _, defers := [] } : Act) = act0
        refine range_tells (F := Fence.wide) rfl (by omega) (gf := 30) (lb := #[.pointer (some ⟨Bq, 0, none⟩)]) (by rw [← hact]; rfl) trivial (enters_of Try.func30 (by kernel_rfl) rfl)
          (tellsF _ Bq w4.heap.size v6 T w6 hbx6 hown6 hT.out.all (by omega) (by omega)) (Below.refl _ _) kpF_t (kpF_b hbxl hvl6) (fun _ _ _ _ _ _ _ _ h1 h2 h3 => h3.put h1 h2) (fun _ => rfl)
          (fun pre W => Boxed W w5.heap.size 3 (.int .i64 ((pre.length : Nat) : Int)) ∧ Below w5.heap.size w5 W)
          (fun _ _ _ => False) ?hI (fun _ _ _ _ _ hs _ _ => hs) ⟨bN6, hb6⟩
          (fun x => { tmps := (((act0.tmps.setIfInBounds 68 (.int .i64 (x.1 : Int))).setIfInBounds 69 x.2.1).setIfInBounds 13 (.int .i64 (x.1 : Int))).setIfInBounds 14 x.2.1, defers := [] }) ?assign ?body ?done ?stop
        case hI => exact OwnFrom.and (Own.from (boxed_own _ _ (fun pre : List Hand => .int .i64 ((pre.length : Nat) : Int))) _) (ownFrom_below (Nat.le_refl _) hb6.size)
        case assign =>
          subst hact
          intro l x W K hK
          gi_wp2
          simp only [List.setIfInBounds_toArray, List.set_cons_zero, List.set_cons_succ] at hK
          exact hK
        case body =>
          subst hact
          rintro l pre x X W hlw ⟨o, hlo, hoc⟩ ⟨i0, hBX⟩ hg hG
          have j0 := i0.kept hg (by simp; omega)
          have hBW : Below w5.heap.size w5 W := hBX.grown hg hBX.size (fun j e => by cases e; omega)
          have hbW : Below wr.heap.size wr W := hb05.trans (hBW.mono (by omega))
          have hpc : pre.length < c := by
            have := (List.getElem?_eq_some_iff.1 hG.1).1
            rwa [hT.out.flen] at this
          have hpk : pre.length < k := Nat.lt_of_lt_of_le hpc hT.out.le
          have hx := hG.1
          rw [hT.out.at_ _ hpc] at hx
          have hx2 : tl x = (at0 (endsP k A) pre.length, (A pre.length).p) := by simpa using hx.symm
          have ex1 : x.1 = at0 (endsP k A) pre.length := (Prod.mk.inj hx2).1
          have ex2 : x.2.2 = (A pre.length).p := (Prod.mk.inj hx2).2
          obtain ⟨ge, hpe, hgl, hcE⟩ := hE pre.length hpk
          subst hpe
          have hcE' := (hbW.cell (p := ⟨ge, pre.length, none⟩) hgl).trans hcE
          obtain ⟨b0, o0, hpa, hb0, hcP⟩ := (hcr.row.below hbW).here hpk
          subst hpa
          have hok := (hcr.each pre.length hpk).below hbW
          obtain ⟨px, cx, hvx, hpx, _, _, hnx⟩ := hG.2.row
          rw [hvx]
          rw [ex2] at hpx hnx ⊢
          rw [ex1]
          have hsm := same_any px (A pre.length).a cx (A pre.length).c (A pre.length).p (A pre.length).p W hpx hok.row hok.all hok.all hnx hok.none
          have bEW : Boxed W (w1.heap.size + 1 + 1) 38 (.slice (some ⟨ge, 0, none⟩) k qe) := bE.kept (grown_none hbW) (by simp)
          have bPW : Boxed W w.heap.size 36 (.slice (some ⟨b0, o0, none⟩) k cap) := bP.kept (grown_none hbW) (by simp)
          have q0 := j0.cell
          have f0 := j0.frozen
          have q1 := bEW.cell
          have q2 := bPW.cell
          have HJ0 := hide_it j0
          have HBW := hide_it hBW
          have hpi : ¬ (k : Int) ≤ (pre.length : Int) := by omega
          have hpi2 : (pre.length : Int) < (k : Int) := by omega
          clear hG hlo hx hx2 ex1 ex2 hvx hpx hnx hok hg i0 j0 hBX hBW hbW hcE hE bEW bPW hcr bE bP
          generalize at0 (endsP k A) pre.length = E at *
          generalize A pre.length = P at *
          gi_wp2_with (refine ⟨trivial, ?_⟩; gi_at_call 13; refine (CallsIn.inRound l (callsIn_wide.2 hsm)).mono ?_; rintro e w9 ⟨rfl, hq⟩; have hq2 := hq.symm; subst hq2; clear hq)
          refine ⟨(KeepsOthers.setCell _ _ _).from _, ⟨by simp, Below.heap_setCell _ _ _ _ (by simp; omega), fun j hj => Below.heap_setCell _ _ _ _ (by have := hvl j hj; simp; omega)⟩, ?_, HBW.out.setCell (p := ⟨w5.heap.size, 0, none⟩) (Nat.le_refl _) _⟩
          have := HJ0.out.set (.int .i64 ((pre.length : Int) + 1))
          simpa using this
        case done =>
          subst hact
          rintro D ys W hD hS ⟨i0, hBW⟩ hK
          have hlen : ys.length = c := by
            have h := congrArg List.length hS
            rw [List.length_map, hT.out.flen] at h
            exact h
          rw [hlen] at i0
          have hbW : Below wr.heap.size wr W := hb05.trans (hBW.mono (by omega))
          have bEW : Boxed W (w1.heap.size + 1 + 1) 38 (.slice pe k qe) := bE.kept (grown_none hbW) (by simp)
          have bRW : Boxed W (w.heap.size + 1) 4 (.bool false) := bR.kept (grown_none hbW) (by simp)
          have hTW := hTr.below hbW
          have hcp2 := copied_any pr qr T W hTW (by omega) (fun e => by have := hrn e; have := hTl.out; omega)
          rw [hTl.out] at hcp2
          have hck := hT.out.le
          have q0 := i0.cell
          have q1 := bEW.cell
          have hEW : Hid (∀ i, i < k → ∃ g, pe = some ⟨g, 0, none⟩ ∧ W.cell? ⟨g, i, none⟩ = some (.int .i64 ((at0 (endsP k A) i : Nat) : Int))) := fun i hi => by
            obtain ⟨g, e, hgl, hcE⟩ := hE i hi
            exact ⟨g, e, (hbW.cell (p := ⟨g, i, none⟩) hgl).trans hcE⟩
          have hbwW := hbwr.trans (hbW.mono hbwr.size)
          have bNW := i0
          have hDW : D < W.heap.size := (Array.getElem?_eq_some_iff.1 hK).1
          have hzW := hbwW.size
          replace hK := hide_it hK
          clear hS hlen i0 hE bE bR bP hcr hbW hTW hTr hcp hbx6 hown6 bN6 hrow hn4 hBW
          gi_wp2_with fail
          gi_loopw [15] (fun i wr' => ∃ j : Nat, j ≤ c ∧ i = .int .i64 (j : Int) ∧ wr' = W) (fun i _ => c - (intOf i).toNat)
          case atStart => exact ⟨0, by omega, rfl, rfl⟩
          case round =>
            obtain ⟨j, hj, rfl, hwr'⟩ := hrel
            subst hwr'
            by_cases hjc : j < c
            · have hjk : j < k := by omega
              obtain ⟨g, hpe, hcE⟩ := hEW.out j hjk
              subst hpe
              have hle := hT.out.in_ j hjc
              have hjk2 : (j : Int) < (k : Int) := by omega
              generalize at0 (endsP k A) j = E at *
              gi_wp2
              go_roundw
              case rel => exact ⟨j + 1, by omega, by go_num, (by first | trivial | rfl)⟩
              case measure => simp [intOf]; omega
            · have hjc' : j = c := by omega
              subst hjc'
              clear q1 q0
              have hcn : ∀ p7 q7 w7, RowB w7 p7 T → (p7 = none → T.length = 0 ∧ q7 = 0) → Calls Try.prog 17 #[.slice p7 T.length q7] w7 fun e w' => e = .returned (.tuple #[.int .i64 ((j : Nat) : Int), .int .i64 ((lastE (frs T) : Nat) : Int)]) ∧ Below w7.heap.size w7 w' := fun p7 q7 w7 h1 h2 => by
                have h := count_any p7 q7 T w7 h1 hT.out.all (by omega) h2
                rwa [hT.out.flen] at h
              have hbE := hide_it bEW
              have qe0 := bEW.cell
              have qn0 := bNW.cell
              have hjk0 : j ≤ k := hck
              clear bEW bNW
              by_cases hjk : j < k
              case' pos =>
                obtain ⟨g, hpe, hcE⟩ := hEW.out j hjk
                subst hpe
                have hout := hT.out.out hjk
                have hjk2 : (j : Int) < (k : Int) := by omega
                generalize at0 (endsP k A) j = E at *
              case' neg =>
                have hjk2 : ¬ (j : Int) < (k : Int) := by omega
              all_goals
                gi_wp2_with fail
                refine ⟨trivial, (callsIn_wide.2 hcp2).mono ?_⟩
                rintro e w7 ⟨⟨r7, rfl, ho7⟩, hb7⟩
                obtain ⟨p7, q7, hv7, hp7, _, _, hn7⟩ := ho7.row
                subst hv7
                have hz7 := hb7.size
                have hcn7 := hcn p7 q7 w7 hp7 hn7
                clear ho7 hp7 hcn qe0 qn0
                gi_wp2_with fail
                refine ⟨trivial, (callsIn_wide.2 hcn7).mono ?_⟩
                rintro e w8 ⟨rfl, hb8⟩
                have hb78 := hb7.trans (hb8.mono hz7)
                have bR8 := bRW.kept (grown_none hb78) (by simp)
                have bE8 := hbE.out.kept (grown_none hb78) (by simp)
                have qr8 := bR8.cell
                have fr8 := bR8.frozen
                have qe8 := bE8.cell
                have hK8 := (hb78.block D hDW).trans hK.out
                have hbw8 := hbwW.trans (hb78.mono hzW)
                have HR8 := hide_it bR8
                have hK9 := hide_it ((KeepsOthers.setCell w8 ⟨w.heap.size + 1, 0, none⟩ (.bool true)).same D _ hK8 rfl)
                have hDr : w.heap.size + 1 < D := by omega
                clear hcn7 bR8 bE8 hbE bRW hcp2 hK8
                rcases Nat.eq_zero_or_pos j with hj0 | hj0
                case' inl =>
                  subst hj0
                  rw [hT.out.none]
                case' inr =>
                  obtain ⟨c', rfl⟩ : ∃ c', j = c' + 1 := ⟨j - 1, by omega⟩
                  rw [hT.out.last]
                  obtain ⟨g', hpe', hcE'⟩ := hEW.out c' (by omega)
                  have hg' := World.block_lt_of_cell? _ _ hcE'
                  have hcE8 := (hb78.cell (p := ⟨g', c', none⟩) hg').trans hcE'
                  first | subst hpe' | cases hpe'
                  generalize at0 (endsP k A) c' = E' at *
                all_goals
                  clear hEW
                  gi_wp2_with fail
                  refine ⟨by simp, .inl ⟨_, _, rfl, run_takeDeferred hK9.out, ?_⟩⟩
                  have x0 : Boxed ((w8.setCell ⟨w.heap.size + 1, 0, none⟩ (.bool true)).putObj D (.deferred none)) (w.heap.size + 1) 4 (.bool true) :=
                    (HR8.out.set _).kept (grownBy_putObj' _ D _) (by simp; omega)
                  have y0 := x0.cell
                  refine ⟨.bool true, by simp [results, Try.results7, go_sem, y0], rfl, ?_⟩
                  exact (hbw8.setCell (p := ⟨w.heap.size + 1, 0, none⟩) (by simp) _).trans (belowK_b (w := w) (Nat.le_refl _) _ D _ _ (by omega) hK9.out rfl rfl)
        case stop =>
          rintro D c pre W _ _ h _
          exact h.elim
end Go.Proofs.Ytadceolgekbgmab.frameRow
