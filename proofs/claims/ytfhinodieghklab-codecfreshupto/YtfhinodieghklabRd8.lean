/- A reader's Text and Bytes, whatever the reader is; a copy of bytes; opening a reader. -/
import Derived.Test.YtfhinodieghklabRd7
import Derived.Laws.BytesString
import Derived.Laws.Cells
import Derived.Lib.SliceRun
namespace Go.Proofs.Ytfhinodieghklab
open Go.RowKit

/-- The text of bytes. -/
def strOf (p : List Nat) : ByteArray := (p.map fun n : Nat => (n : Int)).foldl (fun r n => r.push (UInt8.ofNat n.toNat)) ByteArray.empty

theorem conv_row {w : World} {a : Option Addr} {cap : Nat} {p : List Nat} (hr : RowB w a p) (hn : a = none → p.length = 0 ∧ cap = 0) :
    (convert 23 9 (.slice a p.length cap)).run Try.prog w = .ok (.string (strOf p)) w := by
  rw [run_convert_bytes_string w _ _ _ _ _ _ Try.underlying23 Try.underlying5 Try.underlying9]
  cases a with
  | none =>
    obtain ⟨h1, h2⟩ := hn rfl
    have e : p = [] := List.eq_nil_of_length_eq_zero h1
    subst e
    subst h2
    rfl
  | some ad =>
    unfold strOf
    refine run_bytesToString w ad p.length cap (p.map fun n : Nat => (n : Int)) ?_
    have h := run_loadCells_list (P := Try.prog) (w := w) ad (p.map encB) (fun j v hv => ?_)
    · have e : (p.map encB) = (p.map fun n : Nat => (n : Int)).map (Value.int .u8) := by simp [encB]
      rw [List.length_map, e] at h
      exact h
    · have hj : j < p.length := by have := (List.getElem?_eq_some_iff.1 hv).1; simpa using this
      obtain ⟨b, o, e, hlt, hc⟩ := hr.here hj
      cases e
      rw [Addr.add_lit, hc j hj]
      exact (mapB_at hj).symm.trans hv

theorem OwnB.mono {w : World} {base base' : Nat} {v : Value} {zs : List Nat} (h : OwnB w base v zs) (hb : base' ≤ base) : OwnB w base' v zs := by
  refine ⟨h.1, ?_⟩
  rcases h.2 with h2 | ⟨g, cap, cur, e, h3, h4⟩
  · exact .inl h2
  · exact .inr ⟨g, cap, cur, e, Nat.le_trans hb h3, h4⟩
theorem OwnB.set_old {w : World} {base p : Nat} {v : Value} {zs : List Nat} (h : OwnB w base v zs) (hp : p < base) (i : Nat) (u : Value) : OwnB (w.setCell ⟨p, i, none⟩ u) base v zs := by
  refine ⟨h.1, ?_⟩
  rcases h.2 with h2 | ⟨g, cap, cur, e, h3, hh, h4⟩
  · exact .inl h2
  · exact .inr ⟨g, cap, cur, e, h3, by rw [Below.heap_setCell _ _ _ _ (show g ≠ p by omega)]; exact hh, h4⟩

theorem Cur.lt {w : World} {base g : Nat} {bs : List Nat} (h : Cur w base g bs) : g < w.heap.size := by
  obtain ⟨_, a, cap, hh, _⟩ := h
  exact (Array.getElem?_eq_some_iff.1 hh).1
theorem Cur.below {w w' : World} {base g : Nat} {bs : List Nat} (h : Cur w base g bs) (hb : Below w.heap.size w w') : Cur w' base g bs := by
  have hlt := h.lt
  obtain ⟨hg, a, cap, hh, hr, h1⟩ := h
  refine ⟨hg, a, cap, by rw [hb.block g hlt]; exact hh, ?_, h1⟩
  rcases hr with h | ⟨b, o, e, h2, h3, h4⟩
  · exact .inl h
  · exact .inr ⟨b, o, e, h2, Nat.lt_of_lt_of_le h3 hb.size, fun i hi => by rw [hb.cell (p := ⟨b, o + i, none⟩) h3]; exact h4 i hi⟩

set_option maxRecDepth 100000 in
set_option maxHeartbeats 400000 in
theorem clone_any (a : Option Addr) (cap : Nat) (zs : List Nat) (w : World) (hr : RowB w a zs) (hl : zs.length ≤ 140737488355328) (hnil : a = none → zs.length = 0 ∧ cap = 0) :
    Calls Try.prog 36 #[.slice a zs.length cap] w fun e w' => (∃ v, e = .returned v ∧ OwnB w' w.heap.size v zs) ∧ Below w.heap.size w w' := by
  have hb0 : Below w.heap.size w (w.alloc (.cells #[] 5)) := (Below.refl _ _).alloc (Nat.le_refl _) _
  have hr0 := hr.below hb0
  have hn1 := fun (w : World) (a : Option Addr) (n c : Nat) => Lib.run_eql_slice_nil (P := Try.prog) w 23 5 a n c 0 0 Try.underlying23
  cases a with
  | none =>
    obtain ⟨h1, h2⟩ := hnil rfl
    have hzs : zs = [] := List.eq_nil_of_length_eq_zero h1
    subst hzs
    subst h2
    go_enter Try.func36, Try.ntmps36
    go_wp2
    go_ret
    exact ⟨⟨_, rfl, World.ownsRow_nil _ _ _ _⟩, Below.refl _ _⟩
  | some ad =>
    clear hr
    go_enter Try.func36, Try.ntmps36
    go_wp2_with (at_builtin; refine wpList_append_row _ rfl _ _ rfl w.heap.size _ [] rfl (own_empty w) (some ad) cap zs rfl hr0 hnil (by simp; omega) hb0.size ?_; intro vc w0 hown0 hg0 hat0)
    go_ret
    exact ⟨⟨_, rfl, by rw [List.nil_append] at hown0; exact hown0⟩, hb0.grown hg0 hb0.size (fun j e => by cases e; exact Nat.le_refl _)⟩

theorem takeCounted_all {most : Int} {bs : List Nat} (h8 : All8 bs) : ∀ x t, takeCounted most bs = .ok (x, t) → All8 t := fun x t h => by
  unfold takeCounted at h
  split at h
  · cases h
  · next e =>
    split at h
    · cases h
    · cases h; exact (takeShort_all e h8).drop _
theorem takeCounted_len {most : Int} {bs p t : List Nat} (h : takeCounted most bs = .ok (p, t)) : p.length ≤ bs.length ∧ p.length + t.length ≤ bs.length := by
  have hs : ∀ n s, takeShort 0 most bs = .ok (n, s) → s.length ≤ bs.length := fun n s hs => by
    unfold takeShort at hs
    split at hs
    · cases hs
    · split at hs
      · cases hs
      · next e =>
        split at hs
        · cases hs
        · cases hs; exact groups_len bs 0 0 e
  unfold takeCounted at h
  split at h
  · cases h
  · next e =>
    split at h
    · cases h
    · have := hs _ _ e
      cases h; simp; omega

set_option maxRecDepth 100000 in
set_option maxHeartbeats 400000 in
theorem textC (base g L : Nat) (most : Int) (bs : List Nat) (w : World) (hc : Cur w base g bs) (h8 : All8 bs) (hL : w.cell? ⟨L, 0, none⟩ = some (.int .i64 most)) (hl1 : -9223372036854775808 ≤ most) (hl2 : most ≤ 9223372036854775807) :
    Calls Try.prog 66 #[.pointer (some ⟨g, 0, none⟩), .pointer (some ⟨L, 0, none⟩)] w fun e w' => Took (fun p => .string (strOf p)) base g w (takeCounted most bs) e w' := by
  have hs := counted_any base g most bs w hc h8 hl1 hl2
  obtain ⟨R, hR⟩ : ∃ R, R = takeCounted most bs := ⟨_, rfl⟩
  rw [← hR] at hs ⊢
  clear hR hc
  go_enter Try.func66, Try.ntmps66
  go_wp2_with fail
  refine hs.mono ?_
  rintro e w1 (⟨c, rfl, rfl, hb⟩ | ⟨p, t, a, cap, rfl, rfl, hr, hna, hcur, hb⟩)
  · go_wp2_with fail
    exact ⟨rfl, rfl, hb⟩
  · have hcv := conv_row (cap := cap) hr.row hna
    have HC := hide_it hcur
    clear hcur hs
    go_wp2_with fail
    go_ret
    exact ⟨rfl, HC.out, hb⟩
set_option maxRecDepth 100000 in
set_option maxHeartbeats 1000000 in
theorem readingS (p : Nat) (L : Nat) (bs : List Nat) (w : World) (R : Except Nat (List Nat × List Nat)) (hr : Rdr w p bs 0)
    (htake : ∀ (w2 : World) (g : Nat), Below w.heap.size w w2 → Cur w2 (w.heap.size + 1) g bs → Calls Try.prog 66 #[.pointer (some ⟨g, 0, none⟩), .pointer (some ⟨L, 0, none⟩)] w2 fun e w' => Took (fun p => .string (strOf p)) (w.heap.size + 1) g w2 R e w') :
    Calls Try.prog 65 #[.pointer (some ⟨p, 0, none⟩), .func (.func 66) #[] #[.pointer (some ⟨L, 0, none⟩)]] w fun e w' => Red (fun p => .string (strOf p)) (.string ⟨#[]⟩) p bs w R e w' := by
  have hmf : ∀ (fn : Fn) (first cap : Array Value) (w : World), (Instr.makeFunc fn first cap).run Try.prog w = .ok (.func fn first cap) w := fun _ _ _ _ => rfl
  have hb1 : Below w.heap.size w (w.alloc (.cells #[.pointer (some ⟨p, 0, none⟩)] 28)) := (Below.refl _ _).alloc (Nat.le_refl _) _
  have hp0 := hr.1
  have hr1 := hr.below hb1
  have hf1 := fault_any p bs 0 _ hr1
  have hr2 := hr1.below ((Below.refl _ _).alloc (Nat.le_refl _) (.cells #[.pointer (some ⟨p, 0, none⟩)] 28))
  have hrr := hr
  obtain ⟨_, a, cap, hh, hrow, hl, hm, hnil⟩ := hr
  have hc0 : (w.alloc (.cells #[.pointer (some ⟨p, 0, none⟩)] 28)).cell? ⟨p, 0, none⟩ = some (.slice a bs.length cap) := by rw [cell_of_row _ _ _ _ _ _ (by rw [hb1.block p hp0]; exact hh)]; rfl
  have hcb : (w.alloc (.cells #[.pointer (some ⟨p, 0, none⟩)] 28)).cell? ⟨w.heap.size, 0, none⟩ = some (.pointer (some ⟨p, 0, none⟩)) := by rw [cell_of_row _ _ _ _ _ _ (heap_alloc_new w _)]; rfl
  have hb2 : Below w.heap.size w ((w.alloc (.cells #[.pointer (some ⟨p, 0, none⟩)] 28)).alloc (.cells #[.slice a bs.length cap] 90)) := hb1.alloc hb1.size _
  have hcur2 : Cur ((w.alloc (.cells #[.pointer (some ⟨p, 0, none⟩)] 28)).alloc (.cells #[.slice a bs.length cap] 90)) (w.heap.size + 1) (w.heap.size + 1) bs := by
    refine ⟨Nat.le_refl _, a, cap, ?_, ?_, hl, hm, hnil⟩
    · have e := heap_alloc_new (w.alloc (.cells #[.pointer (some ⟨p, 0, none⟩)] 28)) (.cells #[.slice a bs.length cap] 90)
      simp only [World.size_alloc] at e
      exact e
    · rcases hrow with h | ⟨b, o, e, hlt, hc⟩
      · exact .inl h
      · exact .inr ⟨b, o, e, by omega, Nat.lt_of_lt_of_le hlt hb2.size, fun i hi => by rw [hb2.cell (p := ⟨b, o + i, none⟩) hlt]; exact hc i hi⟩
  have ht := htake _ (w.heap.size + 1) hb2 hcur2
  have hcb2 : ((w.alloc (.cells #[.pointer (some ⟨p, 0, none⟩)] 28)).alloc (.cells #[.slice a bs.length cap] 90)).cell? ⟨w.heap.size, 0, none⟩ = some (.pointer (some ⟨p, 0, none⟩)) := by
    rw [World.cell?_of_block (w := w.alloc (.cells #[.pointer (some ⟨p, 0, none⟩)] 28)) (Below.heap_alloc _ _ _ (by simp))]; exact hcb
  have HCB2 := hide_it hcb2
  clear hcur2 htake hrow hh hcb2
  go_enter_defers Try.func65, Try.ntmps65
  go_wp2_with (go_at_call 12; refine hf1.mono ?_; rintro e w' ⟨rfl, hq⟩; have hq2 := hq.symm; subst hq2; clear hq)
  refine ht.mono ?_
  intro e w3 hk
  clear ht hf1 hc0 hcb hr1 hr2
  cases R with
  | error c =>
    obtain ⟨rfl, hb3⟩ := hk
    have hbw := hb2.trans (hb3.mono (by omega))
    have hr3 := hrr.below hbw
    obtain ⟨q1, q2, q3, _⟩ := hr3.cell1
    have hcb3 : w3.cell? ⟨w.heap.size, 0, none⟩ = some (.pointer (some ⟨p, 0, none⟩)) := (hb3.cell (p := ⟨w.heap.size, 0, none⟩) (by simp)).trans HCB2.out
    go_wp2_with fail
    refine leaves_cons (f := 84) (args := #[.pointer (some ⟨w.heap.size, 0, none⟩)]) (by simp) (by simp [go_sem]) ?_
    refine (catchPS w.heap.size p 0 (c : Int) [] _ hcb3 q1 q2).mono ?_
    rintro e u' w'' ⟨rfl, rfl, rfl⟩
    simp [Leaves, settle, results, Try.results65, go_sem]
    exact ⟨grown_setCell (grown_of_below hbw p) _ _, rfl, hr3.setFault c⟩
  | ok x =>
    obtain ⟨x, t⟩ := x
    obtain ⟨rfl, hcur, hb3⟩ := hk
    have hbw := hb2.trans (hb3.mono (by omega))
    have hr3 := hrr.below hbw
    obtain ⟨q1, q2, q3, v0, q4⟩ := hr3.cell1
    have hcb3 : w3.cell? ⟨w.heap.size, 0, none⟩ = some (.pointer (some ⟨p, 0, none⟩)) := (hb3.cell (p := ⟨w.heap.size, 0, none⟩) (by simp)).trans HCB2.out
    obtain ⟨_, a', cap', hh', hrow', hl', hm', hnil'⟩ := hcur
    have hc3 : w3.cell? ⟨w.heap.size + 1, 0, none⟩ = some (.slice a' t.length cap') := by rw [cell_of_row _ _ _ _ _ _ hh']; rfl
    have HR := hide_it hrow'.row
    clear hh' hrow'
    go_wp2_with fail
    refine leaves_cons (f := 84) (args := #[.pointer (some ⟨w.heap.size, 0, none⟩)]) (by simp) (by simp [go_sem]) ?_
    refine (catchIS w.heap.size _).mono ?_
    rintro e u' w'' ⟨rfl, rfl, rfl⟩
    simp [Leaves, settle, results, Try.results65, go_sem]
    exact ⟨grown_setCell (grown_of_below hbw p) _ _, rfl, hr3.setRest HR.out hl' hm' hnil'⟩


/-- What comes of taking bytes: they lie in new memory. -/
def TookB (base g : Nat) (w : World) (r : Except Nat (List Nat × List Nat)) (e : Ending) (w' : World) : Prop :=
  match r with
  | .error c => e = .panicked [{ v := .iface 31 (.int .i64 (c : Int)), recovered := false }] ∧ Below base w w'
  | .ok (p, t) => ∃ v, e = .returned v ∧ OwnB w' base v p ∧ Cur w' base g t ∧ Below base w w'
/-- What comes of reading bytes. -/
def RedB (p : Nat) (bs : List Nat) (w : World) (r : Except Nat (List Nat × List Nat)) (e : Ending) (w' : World) : Prop :=
  w.grownBy w' (some p) ∧
  match r with
  | .error c => (∃ v, e = .returned v ∧ OwnB w' w.heap.size v []) ∧ Rdr w' p bs c
  | .ok (x, t) => (∃ v, e = .returned v ∧ OwnB w' w.heap.size v x) ∧ Rdr w' p t 0

set_option maxRecDepth 100000 in
set_option maxHeartbeats 1000000 in
theorem readingB (p : Nat) (L : Nat) (bs : List Nat) (w : World) (R : Except Nat (List Nat × List Nat)) (hr : Rdr w p bs 0)
    (htake : ∀ (w2 : World) (g : Nat), Below w.heap.size w w2 → Cur w2 (w.heap.size + 1) g bs → Calls Try.prog 46 #[.pointer (some ⟨g, 0, none⟩), .pointer (some ⟨L, 0, none⟩)] w2 fun e w' => TookB (w.heap.size + 1) g w2 R e w') :
    Calls Try.prog 45 #[.pointer (some ⟨p, 0, none⟩), .func (.func 46) #[] #[.pointer (some ⟨L, 0, none⟩)]] w fun e w' => RedB p bs w R e w' := by
  have hmf : ∀ (fn : Fn) (first cap : Array Value) (w : World), (Instr.makeFunc fn first cap).run Try.prog w = .ok (.func fn first cap) w := fun _ _ _ _ => rfl
  have hb1 : Below w.heap.size w (w.alloc (.cells #[.pointer (some ⟨p, 0, none⟩)] 28)) := (Below.refl _ _).alloc (Nat.le_refl _) _
  have hp0 := hr.1
  have hr1 := hr.below hb1
  have hf1 := fault_any p bs 0 _ hr1
  have hr2 := hr1.below ((Below.refl _ _).alloc (Nat.le_refl _) (.cells #[.pointer (some ⟨p, 0, none⟩)] 28))
  have hrr := hr
  obtain ⟨_, a, cap, hh, hrow, hl, hm, hnil⟩ := hr
  have hc0 : (w.alloc (.cells #[.pointer (some ⟨p, 0, none⟩)] 28)).cell? ⟨p, 0, none⟩ = some (.slice a bs.length cap) := by rw [cell_of_row _ _ _ _ _ _ (by rw [hb1.block p hp0]; exact hh)]; rfl
  have hcb : (w.alloc (.cells #[.pointer (some ⟨p, 0, none⟩)] 28)).cell? ⟨w.heap.size, 0, none⟩ = some (.pointer (some ⟨p, 0, none⟩)) := by rw [cell_of_row _ _ _ _ _ _ (heap_alloc_new w _)]; rfl
  have hb2 : Below w.heap.size w ((w.alloc (.cells #[.pointer (some ⟨p, 0, none⟩)] 28)).alloc (.cells #[.slice a bs.length cap] 90)) := hb1.alloc hb1.size _
  have hcur2 : Cur ((w.alloc (.cells #[.pointer (some ⟨p, 0, none⟩)] 28)).alloc (.cells #[.slice a bs.length cap] 90)) (w.heap.size + 1) (w.heap.size + 1) bs := by
    refine ⟨Nat.le_refl _, a, cap, ?_, ?_, hl, hm, hnil⟩
    · have e := heap_alloc_new (w.alloc (.cells #[.pointer (some ⟨p, 0, none⟩)] 28)) (.cells #[.slice a bs.length cap] 90)
      simp only [World.size_alloc] at e
      exact e
    · rcases hrow with h | ⟨b, o, e, hlt, hc⟩
      · exact .inl h
      · exact .inr ⟨b, o, e, by omega, Nat.lt_of_lt_of_le hlt hb2.size, fun i hi => by rw [hb2.cell (p := ⟨b, o + i, none⟩) hlt]; exact hc i hi⟩
  have ht := htake _ (w.heap.size + 1) hb2 hcur2
  have hcb2 : ((w.alloc (.cells #[.pointer (some ⟨p, 0, none⟩)] 28)).alloc (.cells #[.slice a bs.length cap] 90)).cell? ⟨w.heap.size, 0, none⟩ = some (.pointer (some ⟨p, 0, none⟩)) := by
    rw [World.cell?_of_block (w := w.alloc (.cells #[.pointer (some ⟨p, 0, none⟩)] 28)) (Below.heap_alloc _ _ _ (by simp))]; exact hcb
  have HCB2 := hide_it hcb2
  clear hcur2 htake hrow hh hcb2
  go_enter_defers Try.func45, Try.ntmps45
  go_wp2_with (go_at_call 12; refine hf1.mono ?_; rintro e w' ⟨rfl, hq⟩; have hq2 := hq.symm; subst hq2; clear hq)
  refine ht.mono ?_
  intro e w3 hk
  clear ht hf1 hc0 hcb hr1 hr2
  cases R with
  | error c =>
    obtain ⟨rfl, hb3⟩ := hk
    have hbw := hb2.trans (hb3.mono (by omega))
    have hr3 := hrr.below hbw
    obtain ⟨q1, q2, q3, _⟩ := hr3.cell1
    have hcb3 : w3.cell? ⟨w.heap.size, 0, none⟩ = some (.pointer (some ⟨p, 0, none⟩)) := (hb3.cell (p := ⟨w.heap.size, 0, none⟩) (by simp)).trans HCB2.out
    go_wp2_with fail
    refine leaves_cons (f := 71) (args := #[.pointer (some ⟨w.heap.size, 0, none⟩)]) (by simp) (by simp [go_sem]) ?_
    refine (catchPB w.heap.size p 0 (c : Int) [] _ hcb3 q1 q2).mono ?_
    rintro e u' w'' ⟨rfl, rfl, rfl⟩
    simp [Leaves, settle, results, Try.results45, go_sem]
    exact ⟨grown_setCell (grown_of_below hbw p) _ _, ⟨_, rfl, World.ownsRow_nil _ _ _ _⟩, hr3.setFault c⟩
  | ok x =>
    obtain ⟨x, t⟩ := x
    obtain ⟨v9, rfl, hown9, hcur, hb3⟩ := hk
    have HOWN := hide_it hown9
    clear hown9
    have hbw := hb2.trans (hb3.mono (by omega))
    have hr3 := hrr.below hbw
    obtain ⟨q1, q2, q3, v0, q4⟩ := hr3.cell1
    have hcb3 : w3.cell? ⟨w.heap.size, 0, none⟩ = some (.pointer (some ⟨p, 0, none⟩)) := (hb3.cell (p := ⟨w.heap.size, 0, none⟩) (by simp)).trans HCB2.out
    obtain ⟨_, a', cap', hh', hrow', hl', hm', hnil'⟩ := hcur
    have hc3 : w3.cell? ⟨w.heap.size + 1, 0, none⟩ = some (.slice a' t.length cap') := by rw [cell_of_row _ _ _ _ _ _ hh']; rfl
    have HR := hide_it hrow'.row
    clear hh' hrow'
    go_wp2_with fail
    refine leaves_cons (f := 71) (args := #[.pointer (some ⟨w.heap.size, 0, none⟩)]) (by simp) (by simp [go_sem]) ?_
    refine (catchIB w.heap.size _).mono ?_
    rintro e u' w'' ⟨rfl, rfl, rfl⟩
    simp [Leaves, settle, results, Try.results45, go_sem]
    exact ⟨grown_setCell (grown_of_below hbw p) _ _, ⟨_, rfl, (HOWN.out.mono (by omega)).set_old hp0 _ _⟩, hr3.setRest HR.out hl' hm' hnil'⟩


set_option maxRecDepth 100000 in
set_option maxHeartbeats 400000 in
theorem bytesC (base g L : Nat) (most : Int) (bs : List Nat) (w : World) (hc : Cur w base g bs) (h8 : All8 bs) (hbs : bs.length ≤ 140737488355328) (hbw : base ≤ w.heap.size) (hL : w.cell? ⟨L, 0, none⟩ = some (.int .i64 most)) (hl1 : -9223372036854775808 ≤ most) (hl2 : most ≤ 9223372036854775807) :
    Calls Try.prog 46 #[.pointer (some ⟨g, 0, none⟩), .pointer (some ⟨L, 0, none⟩)] w fun e w' => TookB base g w (takeCounted most bs) e w' := by
  have hs := counted_any base g most bs w hc h8 hl1 hl2
  have hgl := hc.lt
  obtain ⟨R, hR⟩ : ∃ R, R = takeCounted most bs := ⟨_, rfl⟩
  have hlen := fun p t => takeCounted_len (most := most) (bs := bs) (p := p) (t := t)
  rw [← hR] at hs hlen ⊢
  clear hR hc
  go_enter Try.func46, Try.ntmps46
  go_wp2_with fail
  refine hs.mono ?_
  rintro e w1 (⟨c, rfl, rfl, hb⟩ | ⟨p, t, a, cap, rfl, rfl, hr, hna, hcur, hb⟩)
  · go_wp2_with fail
    exact ⟨rfl, rfl, hb⟩
  · have hpl := (hlen p t rfl).1
    have hcl := clone_any a cap p w1 hr.row (by omega) hna
    have HC := hide_it hcur
    clear hcur hs hlen
    go_wp2_with fail
    refine hcl.mono ?_
    rintro e w2 ⟨⟨v, rfl, hown⟩, hb2⟩
    go_wp2_with fail
    go_ret
    have hsz := Nat.le_trans hbw hb.size
    exact ⟨_, rfl, hown.mono hsz, HC.out.below hb2, hb.trans (hb2.mono hsz)⟩

/-- What comes of a reading of bytes: they lie in new memory. -/
def ReadB (rp : Option Addr) (w : World) (r : List Nat × (List Nat × Nat)) (e : Ending) (w' : World) : Prop :=
  (∃ v, e = .returned v ∧ OwnB w' w.heap.size v r.1) ∧ Rst w' rp r.2 ∧ w.grownBy w' (rp.map (·.block))
theorem ReadB.pre {rp : Option Addr} {w w1 w' : World} {r : List Nat × (List Nat × Nat)} {e : Ending} (hb : Below w.heap.size w w1) (h : ReadB rp w1 r e w') : ReadB rp w r e w' := by
  obtain ⟨⟨v, h1, h2⟩, h3, h4⟩ := h
  exact ⟨⟨v, h1, h2.mono hb.size⟩, h3, grown_pre hb h4⟩
theorem ReadB.of_shut {take : List Nat → Except Nat (List Nat × List Nat)} {rp : Option Addr} {s : List Nat × Nat} {w w' : World} {e : Ending} (hs : Rst w rp s) (hf : s.2 ≠ 0) (he : e = .returned (.slice none 0 0)) (hb : Below w.heap.size w w') : ReadB rp w (rdOf [] take s) e w' := by
  have e1 : rdOf [] take s = ([], s) := if_pos hf
  rw [e1]
  exact ⟨⟨_, he, World.ownsRow_nil _ _ _ _⟩, hs.below hb, hb.os, hb.tape, hb.output, hb.size, fun k hk _ => hb.block k hk⟩
theorem ReadB.of_red {take : List Nat → Except Nat (List Nat × List Nat)} {p : Nat} {bs : List Nat} {w w' : World} {e : Ending} (h : RedB p bs w (take bs) e w') (h8 : All8 bs) (h8' : ∀ x t, take bs = .ok (x, t) → All8 t) : ReadB (some ⟨p, 0, none⟩) w (rdOf [] take (bs, 0)) e w' := by
  obtain ⟨hg, h⟩ := h
  unfold rdOf
  rw [if_neg (by simp)]
  cases ht : take bs with
  | error c => rw [ht] at h; exact ⟨h.1, .inr ⟨p, rfl, h.2, h8⟩, hg⟩
  | ok x =>
    obtain ⟨x, t⟩ := x
    rw [ht] at h; exact ⟨h.1, .inr ⟨p, rfl, h.2, h8' x t ht⟩, hg⟩

set_option maxRecDepth 100000 in
set_option maxHeartbeats 400000 in
theorem text_any (rp : Option Addr) (most : Int) (s : List Nat × Nat) (w : World) (hs : Rst w rp s) (hl1 : -9223372036854775808 ≤ most) (hl2 : most ≤ 9223372036854775807) :
    Calls Try.prog 39 #[.pointer rp, .int .i64 most] w fun e w' => Read (fun p => .string (strOf p)) rp w (rdOf [] (takeCounted most) s) e w' := by
  have hmf : ∀ (fn : Fn) (first cap : Array Value) (w : World), (Instr.makeFunc fn first cap).run Try.prog w = .ok (.func fn first cap) w := fun _ _ _ _ => rfl
  have hb1 : Below w.heap.size w (w.alloc (.cells #[.int .i64 most] 3)) := (Below.refl _ _).alloc (Nat.le_refl _) _
  have hs2 := hs.below hb1
  have hcL : (w.alloc (.cells #[.int .i64 most] 3)).cell? ⟨w.heap.size, 0, none⟩ = some (.int .i64 most) := by rw [cell_of_row _ _ _ _ _ _ (heap_alloc_new w _)]; rfl
  have hx : Calls Try.prog 65 #[.pointer rp, .func (.func 66) #[] #[.pointer (some ⟨w.heap.size, 0, none⟩)]] (w.alloc (.cells #[.int .i64 most] 3)) fun e w' => Read (fun p => .string (strOf p)) rp w (rdOf [] (takeCounted most) s) e w' := by
    by_cases hf : s.2 = 0
    · rcases hs2 with ⟨_, rfl⟩ | ⟨p, rfl, h2, h8⟩
      · cases hf
      · obtain ⟨bs, f⟩ := s
        cases hf
        refine (readingS p w.heap.size bs _ (takeCounted most bs) h2 (fun w2 g hb hc => textC _ g _ most bs w2 hc h8 ?_ hl1 hl2)).mono fun e w' h => (Read.of_red (zero := []) h h8 (takeCounted_all h8)).pre hb1
        · rw [hb.cell (p := ⟨w.heap.size, 0, none⟩) (by simp)]; exact hcL
    · exact (shutS rp _ _ s _ hs2 hf).mono fun e w' h => (Read.of_shut (zero := []) hs2 hf h.1 h.2).pre hb1
  clear hs hs2 hcL
  go_enter Try.func39, Try.ntmps39
  go_wp2_with fail
  refine hx.mono ?_
  rintro e w1 ⟨rfl, hk⟩
  go_wp2_with fail
  go_ret
  exact ⟨rfl, hk⟩

set_option maxRecDepth 100000 in
set_option maxHeartbeats 400000 in
theorem bytes_any (rp : Option Addr) (most : Int) (s : List Nat × Nat) (w : World) (hs : Rst w rp s) (hbs : s.1.length ≤ 140737488355328) (hl1 : -9223372036854775808 ≤ most) (hl2 : most ≤ 9223372036854775807) :
    Calls Try.prog 19 #[.pointer rp, .int .i64 most] w fun e w' => ReadB rp w (rdOf [] (takeCounted most) s) e w' := by
  have hmf : ∀ (fn : Fn) (first cap : Array Value) (w : World), (Instr.makeFunc fn first cap).run Try.prog w = .ok (.func fn first cap) w := fun _ _ _ _ => rfl
  have hb1 : Below w.heap.size w (w.alloc (.cells #[.int .i64 most] 3)) := (Below.refl _ _).alloc (Nat.le_refl _) _
  have hs2 := hs.below hb1
  have hcL : (w.alloc (.cells #[.int .i64 most] 3)).cell? ⟨w.heap.size, 0, none⟩ = some (.int .i64 most) := by rw [cell_of_row _ _ _ _ _ _ (heap_alloc_new w _)]; rfl
  have hx : Calls Try.prog 45 #[.pointer rp, .func (.func 46) #[] #[.pointer (some ⟨w.heap.size, 0, none⟩)]] (w.alloc (.cells #[.int .i64 most] 3)) fun e w' => ReadB rp w (rdOf [] (takeCounted most) s) e w' := by
    by_cases hf : s.2 = 0
    · rcases hs2 with ⟨_, rfl⟩ | ⟨p, rfl, h2, h8⟩
      · cases hf
      · obtain ⟨bs, f⟩ := s
        cases hf
        refine (readingB p w.heap.size bs _ (takeCounted most bs) h2 (fun w2 g hb hc => bytesC _ g _ most bs w2 hc h8 hbs ?_ ?_ hl1 hl2)).mono fun e w' h => (ReadB.of_red  h h8 (takeCounted_all h8)).pre hb1
        · exact Nat.le_trans hc.1 (Nat.le_of_lt hc.lt)
        · rw [hb.cell (p := ⟨w.heap.size, 0, none⟩) (by simp)]; exact hcL
    · exact (shutB rp _ _ s _ hs2 hf).mono fun e w' h => (ReadB.of_shut  hs2 hf h.1 h.2).pre hb1
  clear hs hs2 hcL
  go_enter Try.func19, Try.ntmps19
  go_wp2_with fail
  refine hx.mono ?_
  rintro e w1 ⟨⟨v, rfl, hv⟩, hk⟩
  go_wp2_with fail
  go_ret
  exact ⟨⟨_, rfl, hv⟩, hk⟩
end Go.Proofs.Ytfhinodieghklab
