/- The calls of a store that is not there. -/
import Derived.Test.YthaknohnccmfoaaSo21
namespace Go.Proofs.Ythaknohnccmfoaa
open Go.RowKit Go.Maps

theorem Kc.below {w W' : World} {x : Stv} (hb : Below (Wc w x).heap.size (Wc w x) W') : Kc w W' x := Kc.chg (S := fun _ => False) (Chg.new hb) fun _ h => h.elim
/-- The boxes of a call are of no bytes, pairs, versions. -/
theorem tc_keep {w W' w' : World} {x : Stv} (k : Kc w W' x) (hc : Chg (Tc w) W' w') {j : Nat} {cur : Array Value} {t : TypeId} (hj : W'.heap[j]? = some (.cells cur t (0, 0))) (ht : t ≠ 35) : w'.heap[j]? = W'.heap[j]? :=
  hc.block j (Array.getElem?_eq_some_iff.1 hj).1 fun e => by
    rcases e with e | e
    · rw [e, k.b1] at hj; cases hj; exact ht rfl
    · rw [e, k.b2] at hj; cases hj; exact ht rfl
theorem TdAt.tc {w W' w' : World} {x : Stv} {vb vp vl : Value} {t : Td} (h : TdAt W' vb vp vl t) (k : Kc w W' x) (hc : Chg (Tc w) W' w') : TdAt w' vb vp vl t := by
  obtain ⟨zp, h1, h2⟩ := h.p
  obtain ⟨zl, h3, h4⟩ := h.l
  have bytes : ∀ {v : Value} {zs : List Nat}, OwnB W' 0 v zs → OwnB w' 0 v zs := fun {v zs} hb => hb.hold fun j hj => by
    obtain ⟨cur, h5⟩ := hb.typed hj
    exact tc_keep k hc h5 (by decide)
  refine ⟨bytes h.b, ⟨zp, ⟨OwnS.keep h1.own fun j hj => ?_, fun y hy => bytes (h1.val y hy)⟩, h2⟩, ⟨zl, ⟨OwnS.keep h3.own fun j hj => ?_, fun y hy => bytes (h3.val y hy)⟩, h4⟩⟩
  · obtain ⟨cur, h5⟩ := OwnS.type h1.own hj
    exact tc_keep k hc h5 (by decide)
  · obtain ⟨cur, h5⟩ := OwnS.type h3.own hj
    exact tc_keep k hc h5 (by decide)
theorem tc_below {w W' w' : World} {B : Nat} (hB : B ≤ w.heap.size) (hb : Below B w W') (hc : Chg (Tc w) W' w') : Below B w w' :=
  hb.trans (hc.below (fun j e => by rcases e with e | e <;> omega) (Nat.le_trans hB hb.size))

set_option maxRecDepth 100000 in
set_option maxHeartbeats 1000000 in
/-- A step that calls nothing. -/
theorem call_other {w : World} {p : Option Addr} (x : Stv) (h0 : x.k < 0 ∨ 7 < x.k) : Calls Try.prog 13 #[.pointer p, stepV x] w fun e w' => ∃ (W' : World), e = .returned (.agg #[.int .i64 0, .int .i64 0, .int .i64 0, .bool false, .slice none 0 0, .slice none 0 0, .slice none 0 0]) ∧ W' = Wc w x ∧ Chg (Tc w) W' w' := by
  have kc := wc_kc w x
  obtain ⟨W, hW⟩ : ∃ W, W = Wc w x := ⟨_, rfl⟩
  rw [← hW] at kc ⊢
  unfold Wc boxX boxT at hW
  have s0 : W.cell? ⟨w.heap.size, 0, none⟩ = some (.int .i64 x.k) := cell_of_row _ _ _ _ _ _ kc.b0
  have d0 : W.cell? ⟨w.heap.size + 1, 0, none⟩ = some (.int .i64 0) := cell_of_row _ _ _ _ _ _ kc.b1
  have d1 : W.cell? ⟨w.heap.size + 1, 1, none⟩ = some (.int .i64 0) := cell_of_row _ _ _ _ _ _ kc.b1
  have d2 : W.cell? ⟨w.heap.size + 1, 2, none⟩ = some (.int .i64 0) := cell_of_row _ _ _ _ _ _ kc.b1
  have d3 : W.cell? ⟨w.heap.size + 1, 3, none⟩ = some (.bool false) := cell_of_row _ _ _ _ _ _ kc.b1
  have d4 : W.cell? ⟨w.heap.size + 1, 4, none⟩ = some (.slice none 0 0) := cell_of_row _ _ _ _ _ _ kc.b1
  have d5 : W.cell? ⟨w.heap.size + 1, 5, none⟩ = some (.slice none 0 0) := cell_of_row _ _ _ _ _ _ kc.b1
  have d6 : W.cell? ⟨w.heap.size + 1, 6, none⟩ = some (.slice none 0 0) := cell_of_row _ _ _ _ _ _ kc.b1
  have f1 : ∀ j, W.frozen? ⟨w.heap.size + 1, j, none⟩ = false := fun j => frozen_of_row _ _ _ _ _ kc.b1
  have g0 : W.cell? ⟨w.heap.size + 1 + 1, 0, none⟩ = some (.int .i64 0) := cell_of_row _ _ _ _ _ _ kc.b2
  have g1 : W.cell? ⟨w.heap.size + 1 + 1, 1, none⟩ = some (.int .i64 0) := cell_of_row _ _ _ _ _ _ kc.b2
  have g2 : W.cell? ⟨w.heap.size + 1 + 1, 2, none⟩ = some (.int .i64 0) := cell_of_row _ _ _ _ _ _ kc.b2
  have g3 : W.cell? ⟨w.heap.size + 1 + 1, 3, none⟩ = some (.bool false) := cell_of_row _ _ _ _ _ _ kc.b2
  have g4 : W.cell? ⟨w.heap.size + 1 + 1, 4, none⟩ = some (.slice none 0 0) := cell_of_row _ _ _ _ _ _ kc.b2
  have g5 : W.cell? ⟨w.heap.size + 1 + 1, 5, none⟩ = some (.slice none 0 0) := cell_of_row _ _ _ _ _ _ kc.b2
  have g6 : W.cell? ⟨w.heap.size + 1 + 1, 6, none⟩ = some (.slice none 0 0) := cell_of_row _ _ _ _ _ _ kc.b2
  have q0 : (x.k == 0) = false := by simp; omega
  have q1 : (x.k == 1) = false := by simp; omega
  have q2 : (x.k == 2) = false := by simp; omega
  have q3 : (x.k == 3) = false := by simp; omega
  have q4 : (x.k == 4) = false := by simp; omega
  have q5 : (x.k == 5) = false := by simp; omega
  have q6 : (x.k == 6) = false := by simp; omega
  have q7 : (x.k == 7) = false := by simp; omega
  clear kc h0
  unfold stepV
  have hW2 := hW.symm
  clear hW
  go_enter Try.func13, Try.ntmps13
  go_wp2
  refine bodyPost_ret (v := .agg #[.int .i64 0, .int .i64 0, .int .i64 0, .bool false, .slice none 0 0, .slice none 0 0, .slice none 0 0]) (by simp [results, Try.results13, d0, d1, d2, d3, d4, d5, d6, go_sem]) rfl ⟨W, rfl, rfl, ?_⟩
  have hr : Chg (Tc w) W W := Chg.refl _ _
  exact (((((((hr.setCell _ _ fun _ => .inl rfl).setCell _ _ fun _ => .inl rfl).setCell _ _ fun _ => .inl rfl).setCell _ _ fun _ => .inl rfl).setCell _ _ fun _ => .inl rfl).setCell _ _ fun _ => .inl rfl).setCell _ _ fun _ => .inl rfl)

/-- What a store that is not there answers. -/
def noneTd (x : Stv) : Td := ⟨if x.k = 0 then 1 else 0, 0, 0, false, [], [], []⟩
theorem noneFine (x : Stv) : TdFine (noneTd x) := ⟨Nat.zero_le _, Nat.zero_le _, (fun _ h => by cases h), Nat.zero_le _, (fun _ h => by cases h)⟩
theorem noneAt (w : World) (x : Stv) : TdAt w (.slice none 0 0) (.slice none 0 0) (.slice none 0 0) (noneTd x) := tdAt_zero w _ 0 0 false
theorem call_none {w0 : World} (x : Stv) (hx : StvOk w0 x) (w : World) : Calls Try.prog 13 #[.pointer none, stepV x] w fun e w' => (∃ v, e = .returned v ∧ TdIs w' v (noneTd x)) ∧ Below w.heap.size w w' := by
  have hkey : x.key.size ≤ maxLen := by have := hx.key; unfold maxLen; omega
  have hto : x.to.size ≤ maxLen := by have := hx.to; unfold maxLen; omega
  obtain ⟨W, hW⟩ : ∃ W, W = Wc w x := ⟨_, rfl⟩
  have hbw : Below w.heap.size w (Wc w x) := wc_below w x
  have fin : ∀ {W' w' : World}, Below (Wc w x).heap.size (Wc w x) W' → Chg (Tc w) W' w' → Below w.heap.size w w' := fun hb hc => tc_below (Nat.le_refl _) (hbw.trans (hb.mono hbw.size)) hc
  by_cases h0 : x.k = 0
  · refine (call_apply x h0 (p := none) (R := fun E W' => E = 1 ∧ Below (Wc w x).heap.size (Wc w x) W') ((apply_none (vnOf x) (Wc w x)).mono fun e W' ⟨h1, h2⟩ => ⟨1, h1, Kc.below h2, rfl, h2⟩)).mono ?_
    rintro e w' ⟨E, W', rfl, ⟨rfl, hb⟩, hc⟩
    exact ⟨⟨_, rfl, _, _, _, by unfold noneTd; rw [if_pos h0], noneAt w' x⟩, fin hb hc⟩
  · have e0 : (noneTd x).e = 0 := if_neg h0
    by_cases h1 : x.k = 1
    · refine (call_get x h1 (p := none) (R := fun a n c b W' => b = false ∧ OwnB W' 0 (.slice a n c) [] ∧ Below (Wc w x).heap.size (Wc w x) W') ((get_none x.key hkey x.stamp (Wc w x)).mono ?_)).mono ?_
      · rintro e W' ⟨⟨v, rfl, hv⟩, h2⟩
        obtain ⟨a, c, ev, _⟩ := hv.row
        subst ev
        exact ⟨_, _, _, _, rfl, Kc.below h2, rfl, hv.mono (Nat.zero_le _), h2⟩
      · rintro e w' ⟨a, n, c, b, W', rfl, ⟨rfl, hv, hb⟩, hc⟩
        refine ⟨⟨_, rfl, _, _, _, by rw [e0]; rfl, ?_⟩, fin hb hc⟩
        exact TdAt.tc (x := x) ⟨hv, ⟨[], rowP_nil _, rfl⟩, ⟨[], rowV_nil _, rfl⟩⟩ (Kc.below hb) hc
    · by_cases h2 : x.k = 2
      · refine (call_newest x h2 (p := none) (R := fun n b W' => n = 0 ∧ b = false ∧ Below (Wc w x).heap.size (Wc w x) W') ((newest_none x.key hkey (Wc w x)).mono fun e W' ⟨g1, g2⟩ => ⟨0, false, g1, Kc.below g2, rfl, rfl, g2⟩)).mono ?_
        rintro e w' ⟨n, b, W', rfl, ⟨rfl, rfl, hb⟩, hc⟩
        exact ⟨⟨_, rfl, _, _, _, by rw [e0]; rfl, noneAt w' x⟩, fin hb hc⟩
      · by_cases h3 : x.k = 3
        · refine (call_scan x h3 (p := none) (R := fun a n c W' => a = none ∧ n = 0 ∧ c = 0 ∧ Below (Wc w x).heap.size (Wc w x) W') ((scanned_nil none x.key x.to x.stamp (Wc w x) fun z _ => all_none z).mono fun e W' ⟨g1, g2⟩ => ⟨none, 0, 0, g1, Kc.below g2, rfl, rfl, rfl, g2⟩)).mono ?_
          rintro e w' ⟨a, n, c, W', rfl, ⟨rfl, rfl, rfl, hb⟩, hc⟩
          exact ⟨⟨_, rfl, _, _, _, by rw [e0]; rfl, noneAt w' x⟩, fin hb hc⟩
        · by_cases h4 : x.k = 4
          · refine (call_vacuum x h4 (p := none) (R := fun n W' => n = 0 ∧ Below (Wc w x).heap.size (Wc w x) W') ((vacuum_nil none x.stamp (Wc w x) (all_none _)).mono fun e W' ⟨g1, g2⟩ => ⟨0, g1, Kc.below g2, rfl, g2⟩)).mono ?_
            rintro e w' ⟨n, W', rfl, ⟨rfl, hb⟩, hc⟩
            exact ⟨⟨_, rfl, _, _, _, by rw [e0]; rfl, noneAt w' x⟩, fin hb hc⟩
          · by_cases h5 : x.k = 5
            · refine (call_live x h5 (p := none) (R := fun n W' => n = 0 ∧ Below (Wc w x).heap.size (Wc w x) W') ((live_nil none (Wc w x) (all_none _)).mono fun e W' ⟨g1, g2⟩ => ⟨0, g1, Kc.below g2, rfl, g2⟩)).mono ?_
              rintro e w' ⟨n, W', rfl, ⟨rfl, hb⟩, hc⟩
              exact ⟨⟨_, rfl, _, _, _, by rw [e0]; rfl, noneAt w' x⟩, fin hb hc⟩
            · by_cases h6 : x.k = 6
              · refine (call_len x h6 (p := none) (R := fun n m W' => n = 0 ∧ m = 0 ∧ Below (Wc w x).heap.size (Wc w x) W') ((len_nil none (Wc w x) fun z _ => all_none z).mono fun e W' ⟨g1, g2⟩ => ⟨0, 0, g1, Kc.below g2, rfl, rfl, g2⟩)).mono ?_
                rintro e w' ⟨n, m, W', rfl, ⟨rfl, rfl, hb⟩, hc⟩
                exact ⟨⟨_, rfl, _, _, _, by rw [e0]; rfl, noneAt w' x⟩, fin hb hc⟩
              · by_cases h7 : x.k = 7
                · refine (call_versions x h7 (p := none) (R := fun a n c W' => (∃ ys, RowV W' (.slice a n c) ys ∧ saysV ys = []) ∧ Below (Wc w x).heap.size (Wc w x) W') ((versions_none (Wc w x)).mono ?_)).mono ?_
                  · rintro e W' ⟨⟨v, ys, rfl, ho, hv, hs⟩, g2⟩
                    obtain ⟨a, c, ev, _⟩ := OwnS.open ho
                    subst ev
                    exact ⟨_, _, _, rfl, Kc.below g2, ⟨ys, ⟨OwnS.mono ho (Nat.zero_le _), fun y hy => (hv y hy).mono (Nat.zero_le _)⟩, hs⟩, g2⟩
                  · rintro e w' ⟨a, n, c, W', rfl, ⟨hv, hb⟩, hc⟩
                    refine ⟨⟨_, rfl, _, _, _, by rw [e0]; rfl, ?_⟩, fin hb hc⟩
                    exact TdAt.tc (x := x) ⟨World.ownsRow_nil _ _ _ _, ⟨[], rowP_nil _, rfl⟩, hv⟩ (Kc.below hb) hc
                · refine (call_other x (p := none) (by omega)).mono ?_
                  rintro e w' ⟨W', rfl, rfl, hc⟩
                  exact ⟨⟨_, rfl, _, _, _, by rw [e0]; rfl, noneAt w' x⟩, fin (Below.refl _ _) hc⟩

end Go.Proofs.Ythaknohnccmfoaa
