/- The row of calls whose answers the document fixes. -/
import Derived.Test.YtkacfpmninmjkaaGreatWx1
namespace Go.Proofs.YtkacfpmninmjkaaGreat
open Go.RowKit

/-- A row of numbers. -/
def RowZ (w : World) (a : Option Addr) (ns : List Nat) : Prop := ns.length = 0 ∨ ∃ b o, a = some ⟨b, o, none⟩ ∧ b < w.heap.size ∧ ∀ (i z : Nat), ns[i]? = some z → w.cell? ⟨b, o + i, none⟩ = some (.int .i64 (z : Int))
theorem RowZ.below {w w' : World} {a : Option Addr} {ns : List Nat} (h : RowZ w a ns) (hb : Below w.heap.size w w') : RowZ w' a ns := by
  rcases h with h | ⟨b, o, e, hl, hc⟩
  · exact .inl h
  · exact .inr ⟨b, o, e, Nat.lt_of_lt_of_le hl hb.size, fun i z hi => (hb.cell (p := ⟨b, o + i, none⟩) hl).trans (hc i z hi)⟩
theorem NumN.row {w : World} {N : Nat} {v : Value} {ns : List Nat} (h : NumN w N v ns) : ∃ a c, v = .slice a ns.length c ∧ RowZ w a ns ∧ ns.length ≤ c ∧ c ≤ maxLen ∧ (a = none → ns.length = 0 ∧ c = 0) := by
  rcases h.2 with ⟨rfl, h0⟩ | ⟨g, cap, cur, rfl, hb, hh, hn, hm, _, hat⟩
  · exact ⟨none, 0, by rw [h0], .inl h0, by omega, by simp [maxLen], fun _ => ⟨h0, rfl⟩⟩
  · refine ⟨_, cap, rfl, .inr ⟨g, 0, rfl, (Array.getElem?_eq_some_iff.1 hh).1, fun i z hi => ?_⟩, hn, hm, fun e => by cases e⟩
    have hil : i < ns.length := (List.getElem?_eq_some_iff.1 hi).1
    have h2 : (ns.map encZ)[i]? = some (encZ z) := by rw [List.getElem?_map, hi]; rfl
    rw [cell_of_row _ _ _ _ _ _ hh, Nat.zero_add, ← Array.getElem?_toList]
    rw [← hat, List.getElem?_take_of_lt (by omega)] at h2
    exact h2

set_option maxRecDepth 100000 in
set_option maxHeartbeats 400000 in
theorem equalZ_same (a b : Option Addr) (n ca cb : Nat) (zs : List Nat) (w : World) (ha : RowZ w a zs) (hb : RowZ w b zs) (hz : zs.length = n) (hl : n ≤ 211106232532800) :
    Calls Tryz.prog 29 #[.slice a n ca, .slice b n cb] w fun e w' => e = .returned (.bool true) ∧ Below w.heap.size w w' := by
  go_enter Tryz.func29, Tryz.ntmps29
  go_wp2_with fail
  go_loopw [13, 5] (fun i _ wr => ∃ k : Nat, k ≤ n ∧ i = .int .i64 (k : Int) ∧ Below w.heap.size w wr) (fun i _ _ => n - (intOf i).toNat)
  case atStart => exact ⟨0, by omega, rfl, Below.refl _ _⟩
  case round =>
    obtain ⟨k, hk, rfl, hbw⟩ := hrel
    by_cases hlt : k < n
    · obtain ⟨b1, o1, rfl, g1, c1⟩ : ∃ b o, a = some ⟨b, o, none⟩ ∧ b < w.heap.size ∧ ∀ (i z : Nat), zs[i]? = some z → w.cell? ⟨b, o + i, none⟩ = some (.int .i64 (z : Int)) := by
        rcases ha with h0 | h0
        · omega
        · exact h0
      obtain ⟨b2, o2, rfl, g2, c2⟩ : ∃ q o, b = some ⟨q, o, none⟩ ∧ q < w.heap.size ∧ ∀ (i z : Nat), zs[i]? = some z → w.cell? ⟨q, o + i, none⟩ = some (.int .i64 (z : Int)) := by
        rcases hb with h0 | h0
        · omega
        · exact h0
      obtain ⟨z, hzk⟩ : ∃ z, zs[k]? = some z := ⟨_, List.getElem?_eq_getElem (by omega)⟩
      have d1 := (hbw.cell (p := ⟨b1, o1 + k, none⟩) g1).trans (c1 k z hzk)
      have d2 := (hbw.cell (p := ⟨b2, o2 + k, none⟩) g2).trans (c2 k z hzk)
      have h1 : b1 < wr.heap.size := Nat.lt_of_lt_of_le g1 hbw.size
      have h2 : b2 < wr.heap.size := Nat.lt_of_lt_of_le g2 hbw.size
      have hs := hbw.size
      clear c1 c2 ha hb hz
      go_wp2_with fail
      refine wp_calm ?_
      refine wp_region_held_drew (S := (fun w' => Below wr.heap.size wr w')) (by kernel_rfl) ?_ (fun hHeld => ?_)
      · exact (Below.refl _ _).drew
      refine take_on (i := 0) (v := ?_) rfl rfl (by kernel_rfl) (by kernel_rfl) (by kernel_rfl) (fun _ _ _ h => h) rfl ?_ hHeld ?_
      rotate_left
      · (intro wq hSq; have q1 := (hSq.cell (p := ⟨b1, o1 + k, none⟩) h1).trans d1; have q2 := (hSq.cell (p := ⟨b2, o2 + k, none⟩) h2).trans d2; go_simp <;> first | with_reducible rfl | rfl)
      simp only [Act.put, List.setIfInBounds_toArray, List.set_cons_zero, List.set_cons_succ]
      refine take_on (i := 1) (v := ?_) rfl rfl (by kernel_rfl) (by kernel_rfl) (by kernel_rfl) (fun _ _ _ h => h) rfl ?_ hHeld ?_
      rotate_left
      · (intro wq hSq; have q1 := (hSq.cell (p := ⟨b1, o1 + k, none⟩) h1).trans d1; have q2 := (hSq.cell (p := ⟨b2, o2 + k, none⟩) h2).trans d2; go_simp <;> first | with_reducible rfl | rfl)
      simp only [Act.put, List.setIfInBounds_toArray, List.set_cons_zero, List.set_cons_succ]
      refine take_on (i := 2) (v := ?_) rfl rfl (by kernel_rfl) (by kernel_rfl) (by kernel_rfl) (fun _ _ _ h => h) rfl ?_ hHeld ?_
      rotate_left
      · (intro wq hSq; have q1 := (hSq.cell (p := ⟨b1, o1 + k, none⟩) h1).trans d1; have q2 := (hSq.cell (p := ⟨b2, o2 + k, none⟩) h2).trans d2; go_simp <;> first | with_reducible rfl | rfl)
      simp only [Act.put, List.setIfInBounds_toArray, List.set_cons_zero, List.set_cons_succ]
      refine take_on (i := 3) (v := ?_) rfl rfl (by kernel_rfl) (by kernel_rfl) (by kernel_rfl) (fun _ _ _ h => h) rfl ?_ hHeld ?_
      rotate_left
      · (intro wq hSq; have q1 := (hSq.cell (p := ⟨b1, o1 + k, none⟩) h1).trans d1; have q2 := (hSq.cell (p := ⟨b2, o2 + k, none⟩) h2).trans d2; go_simp <;> first | with_reducible rfl | rfl)
      simp only [Act.put, List.setIfInBounds_toArray, List.set_cons_zero, List.set_cons_succ]
      refine take_on (i := 4) (v := ?_) rfl rfl (by kernel_rfl) (by kernel_rfl) (by kernel_rfl) (fun _ _ _ h => h) rfl ?_ hHeld ?_
      rotate_left
      · (intro wq hSq; have q1 := (hSq.cell (p := ⟨b1, o1 + k, none⟩) h1).trans d1; have q2 := (hSq.cell (p := ⟨b2, o2 + k, none⟩) h2).trans d2; go_simp <;> first | with_reducible rfl | rfl)
      simp only [Act.put, List.setIfInBounds_toArray, List.set_cons_zero, List.set_cons_succ]
      refine take_on (i := 5) (v := ?_) rfl rfl (by kernel_rfl) (by kernel_rfl) (by kernel_rfl) (fun _ _ _ h => h) rfl ?_ hHeld ?_
      rotate_left
      · (intro wq hSq; have q1 := (hSq.cell (p := ⟨b1, o1 + k, none⟩) h1).trans d1; have q2 := (hSq.cell (p := ⟨b2, o2 + k, none⟩) h2).trans d2; go_simp <;> first | with_reducible rfl | rfl)
      simp only [Act.put, List.setIfInBounds_toArray, List.set_cons_zero, List.set_cons_succ]
      refine take_on (i := 6) (v := ?_) rfl rfl (by kernel_rfl) (by kernel_rfl) (by kernel_rfl) (fun _ _ _ h => h) rfl ?_ hHeld ?_
      rotate_left
      · (intro wq hSq; have q1 := (hSq.cell (p := ⟨b1, o1 + k, none⟩) h1).trans d1; have q2 := (hSq.cell (p := ⟨b2, o2 + k, none⟩) h2).trans d2; go_simp <;> first | with_reducible rfl | rfl)
      simp only [Act.put, List.setIfInBounds_toArray, List.set_cons_zero, List.set_cons_succ]
      refine take_on (i := 7) (v := ?_) rfl rfl (by kernel_rfl) (by kernel_rfl) (by kernel_rfl) (fun _ _ _ h => h) rfl ?_ hHeld ?_
      rotate_left
      · (intro wq hSq; have q1 := (hSq.cell (p := ⟨b1, o1 + k, none⟩) h1).trans d1; have q2 := (hSq.cell (p := ⟨b2, o2 + k, none⟩) h2).trans d2; go_simp <;> first | with_reducible rfl | rfl)
      simp only [Act.put, List.setIfInBounds_toArray, List.set_cons_zero, List.set_cons_succ]
      refine take_on (i := 8) (v := ?_) rfl rfl (by kernel_rfl) (by kernel_rfl) (by kernel_rfl) (fun _ _ _ h => h) rfl ?_ hHeld ?_
      rotate_left
      · (intro wq hSq; have q1 := (hSq.cell (p := ⟨b1, o1 + k, none⟩) h1).trans d1; have q2 := (hSq.cell (p := ⟨b2, o2 + k, none⟩) h2).trans d2; go_simp <;> first | with_reducible rfl | rfl)
      simp only [Act.put, List.setIfInBounds_toArray, List.set_cons_zero, List.set_cons_succ]
      refine wpAnyH_done (by kernel_rfl) ?_ _
      go_wp2_with fail
      go_roundw
      case rel => exact ⟨k + 1, by omega, by go_num, hbw.trans (hHeld.mono hs)⟩
      case measure => simp [intOf]; omega
    · clear ha hb
      go_wp2_with fail
      go_ret
      exact ⟨rfl, hbw⟩

/-- The entries of the row. -/
def fx1 (a : Option Addr) : Ent := ⟨1, 0, 0, ⟨#[107]⟩, ⟨a, 1, [7]⟩, false⟩
def fx2 : Ent := ⟨3, 1, 1, ⟨#[]⟩, ⟨none, 0, []⟩, false⟩
def fx3 : Ent := ⟨9, 0, 0, ⟨#[]⟩, ⟨none, 0, []⟩, false⟩
def en1 : En := ⟨1, 0, 0, ⟨#[107]⟩, [7], false⟩
def en2 : En := ⟨3, 1, 1, ⟨#[]⟩, [], false⟩
theorem en1_ok : OkE en1 := ⟨by decide, all8_lit rfl⟩
theorem en2_ok : OkE en2 := ⟨by decide, by intro z hz; cases hz⟩
theorem en3_no : mayE fx3.en = false := by decide
theorem en1_len : (frE en1).length = 14 := by
  rw [(frE_len en1_ok.1).1]
  have : encE en1 = [1, 2, 107, 2, 7] := by
    have e1 : (⟨#[107]⟩ : ByteArray).size = 1 := rfl
    have e2 : strNat ⟨#[107]⟩ = [107] := rfl
    simp [encE, en1, eK, eS, eC, eD, eV, hk, hs, hc, hd, hv, shortL_low, e1, e2]
  rw [this]; rfl
theorem en2_len : (frE en2).length = 12 := by
  rw [(frE_len en2_ok.1).1]
  have : encE en2 = [3, 2, 2] := by
    simp [encE, en2, eK, eS, eC, eD, eV, hk, hs, hc, hd, hv, foldI, shortL_low]
  rw [this]; rfl
theorem two_of {ts : List Ent} {a b : En} (h : ts.map Ent.en = [a, b]) : ∃ t1 t2, ts = [t1, t2] := by
  have hl := congrArg List.length h
  match ts, hl with
  | [t1, t2], _ => exact ⟨t1, t2, rfl⟩
/-- A list of one entry, as a literal lays it. -/
theorem ets_one {W : World} {F : Nat → Prop} (x : Ent) (hx : PcOk W x.val) (hf : x.val.p.length = 0 ∨ farA F x.val.a) (hF : ∀ b, F b → b < W.heap.size) : Ets (W.alloc (.cells #[.int .i64 x.kind, .int .i64 x.stamp, .int .i64 x.count, .string x.key, .slice x.val.a x.val.p.length x.val.c, .bool x.dead] 77)) F (some ⟨W.heap.size, 0, none⟩) [x] := by
  have hb : Below W.heap.size W (W.alloc (.cells #[.int .i64 x.kind, .int .i64 x.stamp, .int .i64 x.count, .string x.key, .slice x.val.a x.val.p.length x.val.c, .bool x.dead] 77)) := (Below.refl _ _).alloc (Nat.le_refl _) _
  refine ⟨.inr ⟨W.heap.size, 0, rfl, by simp, fun hx => by have := hF _ hx; omega, fun i y hi => ?_⟩, fun y hy => ?_⟩
  · have hi0 : i = 0 := by have := (List.getElem?_eq_some_iff.1 hi).1; simp at this; omega
    subst hi0
    have : y = x := by simpa using hi.symm
    subst this
    exact boxN_cells W y
  · have : y = x := by simpa using hy
    subst this
    exact ⟨hx.below hb, hf⟩

set_option maxRecDepth 100000 in
set_option maxHeartbeats 1600000 in
theorem walFixed_any (w : World) : Calls Tryz.prog 8 #[] w fun e w' => e = .returned (.bool true) ∧ Below w.heap.size w w' := by
  have hnew := newD_any 1 w
  go_enter Tryz.func8, Tryz.ntmps8
  go_wp2_with fail
  refine hnew.mono ?_
  rintro e w1 (⟨n, hn, h1, hM⟩ | ⟨hno, _, _⟩)
  · obtain rfl : n = 1 := by omega
    obtain ⟨p, hep, _⟩ := hM.ex
    subst hep
    have hop := made_log (Below.refl w.heap.size w) hM
    clear hnew hM hn h1
    go_wp2_with fail
    refine hop.mono ?_
    rintro e w2 ⟨L, F, rfl, hN, hFw, hLw, hb2⟩
    have hFl := hN.lt
    obtain ⟨W3, hW3⟩ : ∃ W, W = w2.alloc (.cells #[.int .u8 7] 5) := ⟨_, rfl⟩
    have hb3 : Below w2.heap.size w2 W3 := by rw [hW3]; exact (Below.refl _ _).alloc (Nat.le_refl _) _
    have hz3 : W3.heap.size = w2.heap.size + 1 := by rw [hW3]; simp
    have hp3 : PcOk W3 (fx1 (some ⟨w2.heap.size, 0, none⟩)).val := ⟨by rw [hW3]; exact rowB_lit w2 [7] _, all8_lit rfl, by simp [fx1], fun e => by cases e⟩
    have he3 := ets_one (F := F) (fx1 (some ⟨w2.heap.size, 0, none⟩)) hp3 (.inr fun ad e hx => by cases e; have := hFl _ hx; simp at this) (fun b hb => by have := hFl b hb; omega)
    have hN3 := (hN.below hb3).below ((Below.refl _ W3).alloc (Nat.le_refl _) (.cells #[.int .i64 1, .int .i64 0, .int .i64 0, .string ⟨#[107]⟩, .slice (some ⟨w2.heap.size, 0, none⟩) 1 1, .bool false] 77))
    have hwr := hN3.write (some ⟨W3.heap.size, 0, none⟩) 1 [fx1 (some ⟨w2.heap.size, 0, none⟩)] he3 (by simp [zeroPt]) (by simp [zeroPt]) (by simp [zeroPt])
    clear hop hN hN3 he3 hp3
    go_wp2_with fail
    rw [hz3] at hwr
    subst hW3
    refine hwr.mono ?_
    rintro e w4 ⟨rfl, hN4, _⟩
    rw [show wrX false zeroPt ([fx1 (some ⟨w2.heap.size, 0, none⟩)].map Ent.en) = (0, ⟨0, frE en1, 0, 0, 0, 0, 1⟩) from rfl] at hN4 ⊢
    clear hwr hb3 hz3
    simp only at hN4 ⊢
    generalize hF4 : upto F _ _ = F4 at hN4
    clear hF4
    have hl1 := en1_len
    have hl2 := en2_len
    have hFl4 := hN4.lt
    have he5 := ets_one (W := w4) (F := F4) fx2 ⟨.inl rfl, all8_lit rfl, by simp [fx2], fun _ => ⟨rfl, rfl⟩⟩ (.inl rfl) hFl4
    have hN5 := hN4.below ((Below.refl _ w4).alloc (Nat.le_refl _) (.cells #[.int .i64 3, .int .i64 1, .int .i64 1, .string ⟨#[]⟩, .slice none 0 0, .bool false] 77))
    have hgr := hN5.group (some ⟨w4.heap.size, 0, none⟩) 1 [fx2] he5 (by simp [hl1]) (by simp [hl1]) (by simp)
    rw [show grX false ⟨0, frE en1, 0, 0, 0, 0, 1⟩ ([fx2].map Ent.en) = (0, ⟨0, frE en1 ++ frE en2, (frE en1 ++ frE en2).length, 0, 0, 0, 3⟩) from rfl] at hgr
    have hl12 : (frE en1 ++ frE en2).length = 26 := by rw [List.length_append, hl1, hl2]
    rw [hl12] at hgr
    clear hN4 hN5 he5
    go_wp2_with fail
    refine hgr.mono ?_
    rintro e w6 ⟨rfl, hN6, _⟩
    simp only at hN6 ⊢
    generalize hF6 : upto F4 _ _ = F6 at hN6
    clear hF6 hgr hFl4
    have he7 := ets_one (W := w6) (F := F6) fx3 ⟨.inl rfl, all8_lit rfl, by simp [fx3], fun _ => ⟨rfl, rfl⟩⟩ (.inl rfl) hN6.lt
    have hN7 := hN6.below ((Below.refl _ w6).alloc (Nat.le_refl _) (.cells #[.int .i64 9, .int .i64 0, .int .i64 0, .string ⟨#[]⟩, .slice none 0 0, .bool false] 77))
    have hgr := hN7.group (some ⟨w6.heap.size, 0, none⟩) 1 [fx3] he7 (by simp [hl1, hl2]) (by simp [hl1, hl2]) (by simp)
    rw [show grX false ⟨0, frE en1 ++ frE en2, 26, 0, 0, 0, 3⟩ ([fx3].map Ent.en) = (100, ⟨0, frE en1 ++ frE en2, 26, 0, 0, 0, 3⟩) from rfl] at hgr
    clear hN6 hN7 he7
    go_wp2_with fail
    refine hgr.mono ?_
    rintro e w8 ⟨rfl, hN8, _⟩
    simp only at hN8 ⊢
    generalize hF8 : upto F6 _ _ = F8 at hN8
    clear hF8 hgr
    have hbd := hN8.bounds
    simp only [Nat.zero_add] at hbd
    rw [hl12] at hbd
    go_wp2_with fail
    refine hbd.mono ?_
    rintro e w9 ⟨rfl, hb9⟩
    have hN9 := hN8.below hb9
    have hen := hN9.entries (by simp [hl1, hl2])
    clear hbd hN8
    go_wp2_with fail
    refine hen.mono ?_
    rintro e w10 ⟨⟨ve, vn, ts, ns, rfl, hdoc, hnum, hte, hne⟩, hb10⟩
    have hlg : lgF 0 (frE en1 ++ frE en2) = [(en1, 14), (en2, 26)] := by
      have := lgF_all (xs := [en1, en2]) (fun x hx => by rcases List.mem_cons.1 hx with rfl | hx
                                                         · exact en1_ok
                                                         · have : x = en2 := by simpa using hx
                                                           subst this; exact en2_ok) 0
      rw [show bysE [en1, en2] = frE en1 ++ frE en2 by simp [bysE]] at this
      rw [this]
      simp [endsE, hl1, hl2]
    rw [hlg] at hte hne
    simp only [List.map_cons, List.map_nil, Nat.zero_add] at hte hne
    subst hne
    have hbw := hN9.bel.trans (hb10.mono hN9.bel.size)
    obtain ⟨t1, t2, rfl⟩ := two_of hte
    simp only [List.map_cons, List.map_nil, List.cons.injEq] at hte
    obtain ⟨ht1, ht2, _⟩ := hte
    obtain ⟨ea, ec, rfl, hets, _, hecm, _⟩ := hdoc.ets (F := fun _ => False) (fun _ h => h.elim)
    obtain ⟨b, o, rfl, hbl, _, hrow⟩ : ∃ b o, ea = some ⟨b, o, none⟩ ∧ b < w10.heap.size ∧ ¬ False ∧ ∀ (i : Nat) (x : Ent), [t1, t2][i]? = some x → Six w10 b (o + i * 6) x := by
      rcases hets.row with h0 | h0
      · simp at h0
      · exact h0
    have c3 := (hrow 0 t1 rfl).c3
    have c1 := (hrow 1 t2 rfl).c1
    have hk1 : t1.key = ⟨#[107]⟩ := congrArg En.key ht1
    have hk2 : t2.stamp = 1 := congrArg En.stamp ht2
    rw [hk1] at c3
    rw [hk2] at c1
    simp only [Nat.zero_mul, Nat.add_zero, Nat.one_mul] at c3 c1
    obtain ⟨na, nc, rfl, hz, _, _, _⟩ := hnum.row
    have hb11 : Below w10.heap.size w10 (w10.alloc (.cells #[.int .i64 14, .int .i64 26] 3)) := (Below.refl _ _).alloc (Nat.le_refl _) _
    have hzl : RowZ (w10.alloc (.cells #[.int .i64 14, .int .i64 26] 3)) (some ⟨w10.heap.size, 0, none⟩) [14, 26] := by
      refine .inr ⟨_, _, rfl, by simp, fun i z hi => ?_⟩
      rw [cell_of_row _ _ _ _ _ _ (heap_alloc_new w10 _), Nat.zero_add]
      match i, hi with
      | 0, hi => cases hi; rfl
      | 1, hi => cases hi; rfl
    have heq := equalZ_same na (some ⟨w10.heap.size, 0, none⟩) 2 nc 2 [14, 26] _ (hz.below hb11) hzl rfl (by omega)
    clear hen hdoc hnum hets hrow hz hzl hN9 ht1 ht2 hk1 hk2
    simp only [List.length_cons, List.length_nil, Nat.zero_add, Nat.reduceAdd]
    go_wp2_with fail
    refine heq.mono ?_
    rintro e w12 ⟨rfl, hb12⟩
    clear heq
    go_wp2_with fail
    go_ret
    exact ⟨rfl, hbw.trans ((hb11.trans (hb12.mono hb11.size)).mono hbw.size)⟩
  · omega

end Go.Proofs.YtkacfpmninmjkaaGreat
