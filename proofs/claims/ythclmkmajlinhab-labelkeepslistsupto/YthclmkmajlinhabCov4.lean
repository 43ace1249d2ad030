/- What Covers answers of every list of up to a million labels. -/
import Derived.Test.YthclmkmajlinhabCov3
namespace Go.Proofs.Ythclmkmajlinhab
open Go.RowKit Go.Maps

theorem grown_of_below {w w' : World} (h : Below w.heap.size w w') : w.grownBy w' none := ⟨h.os, h.tape, h.output, h.size, fun k hk _ => h.block k hk⟩
theorem One.below {w w' : World} {B b n : Nat} {D : DataW Unit} {h : Nat → Value} {f : Nat → List Nat} (H : One w B b n D h f) (hb : Below w.heap.size w w') : One w' B b n D h f :=
  H.kept (grown_of_below hb) (by simp) (fun _ _ _ => by simp)
theorem rebase {w : World} {B B' e n : Nat} {v : Value} {xs : List Value} (h : w.ownsRow B e 1 v n xs) (hb : B' ≤ B) : w.ownsRow B' e 1 v n xs := by
  refine ⟨h.1, ?_⟩
  rcases h.2 with h0 | ⟨g, cp, cur, e, hbs, r⟩
  · exact .inl h0
  · exact .inr ⟨g, cp, cur, e, Nat.le_trans hb hbs, r⟩
/-- Rows of unlike kinds of elements are unlike. -/
theorem row_unlike {w : World} {B B' e e' n n' g : Nat} {v v' : Value} {xs xs' : List Value} (h : w.ownsRow B e 1 v n xs) (h' : w.ownsRow B' e' 1 v' n' xs') (hne : e ≠ e') (hg : v.ownBlock = some g) : v'.ownBlock ≠ some g := fun hg' => by
  obtain ⟨_, _, cur, hc⟩ := own_block h hg
  obtain ⟨_, _, cur', hc'⟩ := own_block h' hg'
  rw [hc] at hc'
  injection hc' with hc'
  injection hc' with _ h2 _
  exact hne h2
theorem shape_pos {w : World} {B e n : Nat} {v : Value} {xs : List Value} (h : w.ownsRow B e 1 v n xs) (hn : 0 < n) : ∃ g cap, v = .slice (some ⟨g, 0, none⟩) n cap := by
  rcases h.2 with ⟨_, h0⟩ | ⟨g, cp, cur, e, _⟩
  · omega
  · exact ⟨g, cp, e⟩

theorem shape_any {w : World} {B e n : Nat} {v : Value} {xs : List Value} (h : w.ownsRow B e 1 v n xs) : ∃ a cap, v = .slice a n cap := by
  rcases h.2 with ⟨h0, h1⟩ | ⟨g, cp, cur, e, _⟩
  · exact ⟨none, 0, by rw [h0, h1]⟩
  · exact ⟨_, cp, e⟩
theorem cellI {w : World} {B g n cap i : Nat} {l : List Nat} (h : w.ownsRow B 3 1 (.slice (some ⟨g, 0, none⟩) n cap) n (l.map encI)) (hi : i < l.length) : w.cell? ⟨g, i, none⟩ = some (.int .i64 ((at0 l i : Nat) : Int)) := by
  have h1 := h.cells (g := g) rfl i (encI (at0 l i)) (by rw [List.getElem?_map, List.getElem?_eq_getElem hi, at0_get hi]; rfl)
  rw [Addr.add_lit, Nat.zero_add] at h1
  exact h1

/-- No row of the one map is one of the other's. -/
def Cross (h ha : Nat → Value) : Prop := ∀ x y g, (h x).ownBlock = some g → (ha y).ownBlock ≠ some g
theorem step_above {w w4 w5 : World} {B bs ba ns na l : Nat} {D Da : DataW Unit} {hs ha : Nat → Value} {f fb : Nat → List Nat} {v4 vR : Value} {R L : List Nat} {d4 : DataW Unit}
    (hS : One w B bs ns D hs f) (hA : One w B ba na Da ha fb) (hX : Cross hs ha) (hR : w.ownsRow B 36 1 vR R.length (R.map encU)) (hne : bs ≠ ba)
    (hg4 : w.grownBy w4 (ha l).ownBlock) (hrow4 : w4.ownsRow B 3 1 v4 L.length (L.map encI)) (hat4 : v4.ownBlock = (ha l).ownBlock ∨ v4.ownBlock = some w.heap.size) (hd4 : hdrElem v4 = some (d4, []))
    (hown5 : w5.ownsMap Try.prog 36 hdrElem ba (na + 1) (Da.put (.int .u64 (l : Int)) d4)) (hg5 : w4.grownBy w5 (some ba)) :
    One w5 B bs ns D hs f ∧ One w5 B ba (na + 1) (Da.put (.int .u64 (l : Int)) d4) (fun y => if y = l then v4 else ha y) (fun y => if y = l then L else fb y) ∧
      Cross hs (fun y => if y = l then v4 else ha y) ∧ w5.ownsRow B 36 1 vR R.length (R.map encU) := by
  have hbs4 : some bs ≠ (ha l).ownBlock := fun e => by
    obtain ⟨_, _, cur, hc⟩ := own_block (hA.rows l) e.symm
    obtain ⟨es, c, hm⟩ := map_block hS.m
    rw [hm] at hc; cases hc
  have hba4 : some ba ≠ (ha l).ownBlock := fun e => by
    obtain ⟨_, _, cur, hc⟩ := own_block (hA.rows l) e.symm
    obtain ⟨es, c, hm⟩ := map_block hA.m
    rw [hm] at hc; cases hc
  have hmA4 := hA.m.kept hg4 hba4
  have hS4 : One w4 B bs ns D hs f := hS.kept hg4 hbs4 (fun x g e e2 => hX x l g e e2.symm)
  have nomap : ∀ {e n : Nat} {v : Value} {xs : List Value} {g : Nat}, w4.ownsRow B e 1 v n xs → v.ownBlock = some g → some g ≠ some ba := fun hu hg e => by
    obtain ⟨_, _, cur, hc⟩ := own_block hu hg
    obtain ⟨es, c, hm⟩ := map_block hmA4
    cases e
    rw [hm] at hc; cases hc
  have hR4 : w4.ownsRow B 36 1 vR R.length (R.map encU) := hR.kept hg4 (by
    cases e : vR.ownBlock with
    | none => exact .inl rfl
    | some g => exact .inr (fun e2 => row_unlike hR (hA.rows l) (by decide) e e2.symm))
  refine ⟨hS4.kept hg5 (fun e => hne (Option.some.inj e)) (fun x g e => nomap (hS4.rows x) e), hA.stored hg4 hrow4 (hat4.imp id (fun e => ⟨_, e, Nat.le_refl _⟩)) hd4 hown5 hg5, fun x y g e => ?_, hR4.kept hg5 ?_⟩
  · show (if y = l then v4 else ha y).ownBlock ≠ some g
    by_cases ey : y = l
    · rw [if_pos ey]
      intro e2
      rcases hat4 with e3 | e3
      · rw [e3] at e2; exact hX x l g e e2
      · rw [e3] at e2; cases e2
        obtain ⟨_, hlt, _⟩ := own_block (hS.rows x) e
        omega
    · rw [if_neg ey]; exact hX x y g e
  · cases e : vR.ownBlock with
    | none => exact .inl rfl
    | some g => exact .inr (nomap hR4 e)

/-- A pair of places as two values. -/
def encP (p : Nat × Nat) : List Value := [encI p.1, encI p.2]
/-- The pairs of the first k places. -/
def prsTo (zs : List Nat) (fa : Nat → List Nat) (k : Nat) : List (Nat × Nat) := (List.range k).flatMap fun i => (fa (at0 zs i)).map fun j => (i, j)
theorem prsTo_succ (zs : List Nat) (fa : Nat → List Nat) (k : Nat) : prsTo zs fa (k + 1) = prsTo zs fa k ++ (fa (at0 zs k)).map fun j => (k, j) := by
  unfold prsTo; rw [List.range_succ, List.flatMap_append]; simp
theorem prsTo_len (zs : List Nat) (fa : Nat → List Nat) (n : Nat) (h : ∀ y ∈ zs, (fa y).length ≤ n) : ∀ k, k ≤ zs.length → (prsTo zs fa k).length ≤ k * n := by
  intro k
  induction k with
  | zero => intro _; simp [prsTo]
  | succ k ih =>
    intro hk
    rw [prsTo_succ, List.length_append, List.length_map, Nat.succ_mul]
    have h1 := ih (by omega)
    have h2 := h (at0 zs k) (at0_mem (by omega))
    omega
theorem infoPair : (Try.prog.info? 34).map (fun i => (i.zero, i.size, i.bytes)) = some (some (.agg #[.int .i64 0, .int .i64 0]), 2, 16) := by kernel_rfl
theorem flat_one (p : List (Nat × Nat)) (i j : Nat) : (p ++ [(i, j)]).flatMap encP = p.flatMap encP ++ [.int .i64 (i : Int), .int .i64 (j : Int)] := by
  rw [List.flatMap_append]; rfl

/-- What stands above each of the first i labels. -/
def Above (zs C : List Nat) (fa : Nat → List Nat) (i : Nat) : Prop :=
  (∀ j, j < i → fa (at0 C j) = abOf zs (raOf (at0 C j) (C.drop (j + 1))) zs.length) ∧ ∀ y, (∀ j, j < i → at0 C j ≠ y) → fa y = []

set_option maxRecDepth 100000 in
set_option maxHeartbeats 2000000 in
theorem covers_any (a : Option Addr) (cap : Nat) (zs : List Nat) (w : World) (M : Nat) (hM : SortsI M) (hlM : zs.length ≤ M) (hd : DistinctOk zs) (hr : Row w a zs) (h64 : All64 zs) (hl : zs.length ≤ 1048576) (hnil : a = none → zs.length = 0 ∧ cap = 0) :
    Calls Try.prog 8 #[.slice a zs.length cap] w fun e w' => Below w.heap.size w w' ∧ ∃ v C fa, e = .returned v ∧ (∀ x, x ∈ C ↔ x ∈ zs) ∧ (∀ i, i + 1 < C.length → at0 C i < at0 C (i + 1)) ∧ Above zs C fa C.length ∧
      w'.ownsRow w.heap.size 34 2 v (prsTo zs fa zs.length).length ((prsTo zs fa zs.length).flatMap encP) := by
  obtain ⟨i0, hi, hz0, hz1, hz2⟩ := info_parts infoInt
  have hmm := @run_makeMap Try.prog
  have hl63 : (zs.length : Int) ≤ 1048576 := by omega
  go_enter Try.func8, Try.ntmps8
  go_wp2_with fail
  refine (hd a cap w hr hnil).mono ?_
  rintro e w1 ⟨⟨v, C, rfl, hmem, hst, hCl, hown⟩, hb1⟩
  obtain ⟨ca, ccap, rfl, hCr, hcc⟩ := row_of_owns hown
  have hzr := hr.below hb1
  clear hown hd hnil
  go_wp2
  clear hmm
  go_loopw [22] (fun i wr => ∃ (k : Nat) (D : DataW Unit) (hs : Nat → Value), k ≤ zs.length ∧ i = .int .i64 k ∧ One wr w1.heap.size w1.heap.size k D hs (fun x => pl zs x k) ∧ Below w1.heap.size w1 wr) (fun i _ => zs.length - (intOf i).toNat)
  case atStart => exact ⟨0, _, _, by omega, rfl, One.made w1 _, (Below.refl _ _).alloc (Nat.le_refl _) _⟩
  case round =>
    obtain ⟨k, D, hs, hk, rfl, H, hbl⟩ := hrel
    by_cases hlt : k < zs.length
    · obtain ⟨b, o, rfl, _, hcc2⟩ := (hzr.below hbl).here hlt
      have hck := hcc2 k hlt
      clear hcc2
      obtain ⟨x, hx⟩ : ∃ x, x = at0 zs k := ⟨_, rfl⟩
      have hx64 : W64 x := hx ▸ h64.at k
      have hkey := keyL hx64
      have HX : Hid (x = at0 zs k) := hx
      rw [← hx] at hck
      clear hx
      have hlx := H.l x
      have hrx := (H.rows x).alloc (.cells #[.int .i64 (k : Int)] 3)
      have hpl := pl_len zs x k
      have hm1 := H.m
      have hbs := hbl.size
      have hn63 : (pl zs x k).length + 1 ≤ maxLen := by unfold maxLen; omega
      have hroom : k < maxLen := by unfold maxLen; omega
      have hone : ∀ u ∈ [Value.int .i64 (k : Int)], u.oneCell' = true := by simp [Value.oneCell']
      have hmb : some w1.heap.size ≠ (hs x).ownBlock := fun e => by
        obtain ⟨_, _, cur, hc⟩ := own_block (H.rows x) e.symm
        obtain ⟨es, c, hm⟩ := map_block H.m
        rw [hm] at hc; cases hc
      have HH : Hid (One wr w1.heap.size w1.heap.size k D hs (fun x => pl zs x k)) := H
      clear H
      generalize hvx : hs x = vx at *
      have HV : Hid (hs x = vx) := hvx
      clear hvx
      go_wp2_with (first | (at_lookup; refine look_hdr _ rfl _ _ rfl w1.heap.size k D rfl hm1 _ _ rfl hkey vx hlx ?_) | (at_builtin; refine wpList_append_own_at _ rfl _ _ 41 rfl w1.heap.size 3 i0 (.int .i64 0) 1 8 Try.underlying41 hi hz0 hz1 hz2 rfl (by omega) _ _ _ rfl hrx ⟨wr.heap.size, 0, none⟩ 1 1 [.int .i64 (k : Int)] rfl rfl (cell_one_new _ _ _) hone hn63 (by omega) (by simp; omega) ?_; intro v4 w4 hown4 hgrow4 hnil4 hat4; obtain ⟨d4, hd4⟩ := hdr_of_owns hown4; have hm4 := (hm1.alloc (.cells #[.int .i64 (k : Int)] 3)).kept hgrow4 hmb) | (at_mapUpdate; refine wpList_mapUpdate_own _ rfl _ _ _ 51 rfl 36 41 keyedL Try.underlying51 hdrElem w1.heap.size k D rfl hm4 hroom _ _ _ rfl rfl hkey d4 [] hd4 ?_; intro w5 hown5 hgrow5))
      have hg4 : (wr.alloc (.cells #[.int .i64 (k : Int)] 3)).grownBy w4 vx.ownBlock := hgrow4
      have hst4 := (HH.out.alloc (.cells #[.int .i64 (k : Int)] 3)).stored (x := x) (v := v4) (zs := pl zs x k ++ [k]) (d := d4) (by rw [HV.out]; exact hg4) (by simpa [encI] using hown4) (by rw [HV.out]; exact hat4.imp id (fun e => ⟨_, e, by simp⟩)) hd4 hown5 hgrow5
      have hb4 : Below w1.heap.size w1 w5 := ((hbl.alloc hbs _).grown hg4 (by simp; omega) (fun j e => own_ge hrx e)).grown hgrow5 (by have := hg4.size; simp at this; omega) (fun j e => by cases e; exact Nat.le_refl _)
      go_roundw
      case rel =>
        have e : (fun y => if y = x then pl zs x k ++ [k] else pl zs y k) = fun y => pl zs y (k + 1) := by rw [HX.out]; exact pl_step zs k
        have hst5 : One w5 w1.heap.size w1.heap.size (k + 1) (D.put (.int .u64 (x : Int)) d4) (fun y => if y = x then v4 else hs y) (fun y => pl zs y (k + 1)) := e ▸ hst4
        exact ⟨k + 1, _, _, by omega, by go_num, hst5, hb4⟩
      case measure => simp [intOf]; omega
    · have he : k = zs.length := by omega
      subst he
      have hmm := @run_makeMap Try.prog
      go_wp2
      clear hmm hlt hk
      obtain ⟨ba, hba⟩ : ∃ ba, ba = wr.heap.size := ⟨_, rfl⟩
      have HBA : Hid (ba = wr.heap.size ∧ w1.heap.size < ba) := ⟨hba, by rw [hba]; exact H.m.lt⟩
      have hA0 := One.made wr w1.heap.size
      have hS0 := H.alloc (.map #[] 0)
      have hB0 := hbl.alloc hbl.size (.map #[] 0)
      rw [← hba] at hA0 ⊢
      clear H hbl hba
      have hnd : C.Nodup := (strict_nodup hst).imp (fun hlt => Nat.ne_of_lt hlt)
      have HM : Hid ((∀ x, x ∈ C ↔ x ∈ zs) ∧ (∀ i, i + 1 < C.length → at0 C i < at0 C (i + 1))) := ⟨hmem, hst⟩
      clear hmem hst
      go_loopw [39] (fun i w2 => ∃ (i' : Nat) (Da : DataW Unit) (ha : Nat → Value) (fa : Nat → List Nat), i' ≤ C.length ∧ i = .int .i64 i' ∧ (One w2 w1.heap.size w1.heap.size zs.length D hs (fun x => pl zs x zs.length) ∧ One w2 w1.heap.size ba (i' * zs.length) Da ha fa ∧
          Cross hs ha ∧ Above zs C fa i') ∧ Below w1.heap.size w1 w2) (fun i _ => C.length - (intOf i).toNat)
      case atStart => exact ⟨0, _, _, _, by omega, rfl, ⟨hS0, by simpa using hA0, fun _ _ _ _ => by simp [Value.ownBlock], ⟨fun j hj => (by omega), fun _ _ => rfl⟩⟩, hB0⟩
      case round =>
        clear hA0 hS0 hB0
        obtain ⟨i, Da, ha, fa, hi', rfl, ⟨hS, hA, hX, hO⟩, hbl⟩ := hrel

        by_cases hlt : i < C.length
        · obtain ⟨cb, co, rfl, hcb, hcc2⟩ := (hCr.below hbl).here hlt
          have hck := hcc2 i hlt
          obtain ⟨l, hll⟩ : ∃ l, l = at0 C i := ⟨_, rfl⟩
          have hlC : l ∈ C := hll ▸ at0_mem hlt
          have hl64 : W64 l := h64 l ((HM.out.1 l).1 hlC)
          have hkey := keyL hl64
          have HL : Hid (l = at0 C i) := hll
          rw [← hll] at hck
          have HC2 : Hid (∀ i, i < C.length → wr.cell? ⟨cb, co + i, none⟩ = some (.int .u64 ((at0 C i : Nat) : Int))) := hcc2
          have HQ : Hid (One wr w1.heap.size w1.heap.size zs.length D hs (fun x => pl zs x zs.length) ∧ One wr w1.heap.size ba (i * zs.length) Da ha fa ∧ Cross hs ha ∧ Above zs C fa i) := ⟨hS, hA, hX, hO⟩
          have hlt2 : (i : Int) + 1 ≤ (C.length : Int) := by omega
          have hcc4 : (C.length : Int) ≤ (ccap : Int) := by omega
          clear hll hcc2 hS hA hX hO
          have hdl : (C.drop (i + 1)).length = C.length - (i + 1) := by simp
          have hra : ∀ (off cp : Nat), Row wr (some ⟨cb, off, none⟩) (C.drop (i + 1)) → Calls Try.prog 22 #[.int .u64 (l : Int), .slice (some ⟨cb, off, none⟩) (C.length - (i + 1)) cp] wr fun e w' =>
              (∃ v, e = .returned v ∧ w'.ownsRow wr.heap.size 36 1 v (raOf l (C.drop (i + 1))).length ((raOf l (C.drop (i + 1))).map encU)) ∧ Below wr.heap.size wr w' := fun off cp hq => by
            have := rightAbove_any l (some ⟨cb, off, none⟩) cp (C.drop (i + 1)) wr hl64 hq (fun z hz => h64 z ((HM.out.1 z).1 (List.mem_of_mem_drop hz))) (by rw [hdl]; omega)
            rwa [hdl] at this
          have HRA : Hid (∀ (off cp : Nat), Row wr (some ⟨cb, off, none⟩) (C.drop (i + 1)) → Calls Try.prog 22 #[.int .u64 (l : Int), .slice (some ⟨cb, off, none⟩) (C.length - (i + 1)) cp] wr fun e w' =>
              (∃ v, e = .returned v ∧ w'.ownsRow wr.heap.size 36 1 v (raOf l (C.drop (i + 1))).length ((raOf l (C.drop (i + 1))).map encU)) ∧ Below wr.heap.size wr w') := hra
          have HR1 : Hid (Row wr (some ⟨cb, co + (i + 1), none⟩) (C.drop (i + 1))) := .inr ⟨cb, co + (i + 1), rfl, Nat.lt_of_lt_of_le hcb (Nat.le_refl _), fun j hj => by
            have h9 := HC2.out (i + 1 + j) (by rw [hdl] at hj; omega)
            rw [show co + (i + 1) + j = co + (i + 1 + j) from by omega, h9]
            congr 3
            unfold at0
            simp [List.getD_eq_getElem?_getD, List.getElem?_drop]⟩
          have hRn : (raOf l (C.drop (i + 1))).Nodup := raOf_nodup (hnd.sublist (List.drop_sublist _ _))
          have hRC : ∀ y ∈ raOf l (C.drop (i + 1)), y ∈ zs := fun y hy => (HM.out.1 y).1 (List.mem_of_mem_drop (raOf_sub y hy))
          have hRl : (raOf l (C.drop (i + 1))).length ≤ zs.length := by have := raOf_len l (C.drop (i + 1)); rw [hdl] at this; omega
          generalize hRR : raOf l (C.drop (i + 1)) = R at *
          have HRR : Hid (raOf l (C.drop (i + 1)) = R) := hRR
          have HRC : Hid (∀ y ∈ R, y ∈ zs) := hRC
          clear hRR hra hRC hdl
          obtain hcap | hcap := Decidable.em (ccap = i + 1)
          subst hcap
          go_wp2_with fail
          have H0 := HRA.out co 0 (.inl (by simp; omega))
          rw [show C.length - (i + 1) = 0 from by omega] at H0
          refine H0.mono ?_
          clear H0
          rotate_left
          go_wp2_with fail
          refine (HRA.out _ _ HR1.out).mono ?_
          all_goals
            rintro e w3 ⟨⟨vR, rfl, hR⟩, hb3⟩
            obtain ⟨ra, rcap, rfl, _, _⟩ := row_of_owns hR
            obtain ⟨q1, q2, q3, q4⟩ := HQ.out
            have hS3 := q1.below hb3
            have hA3 := q2.below hb3
            have hB3 := hbl.trans (hb3.mono hbl.size)
            have hR3 := rebase hR hbl.size
            have hfl : fa l = [] := q4.2 l (fun j hj e => by
              rw [HL.out, ← at0_get (by omega : j < C.length), ← at0_get hlt] at e
              have := (List.getElem_inj hnd).1 e
              omega)
            clear q1 q2 hb3 hR
            go_wp2
            go_loopw [51] (fun t _w => ∃ (m : Nat) (Da : DataW Unit) (ha : Nat → Value) (fb : Nat → List Nat), m ≤ R.length ∧ t = .int .i64 m ∧ (One _w w1.heap.size w1.heap.size zs.length D hs (fun x => pl zs x zs.length) ∧ One _w w1.heap.size ba (i * zs.length + m) Da ha fb ∧
                Cross hs ha ∧ _w.ownsRow w1.heap.size 36 1 (.slice ra R.length rcap) R.length (R.map encU)) ∧ Hid (fb l = ((R.take m).flatMap fun y => pl zs y zs.length) ∧ ∀ y, y ≠ l → fb y = fa y) ∧ Below w1.heap.size w1 _w) (fun t _ => R.length - (intOf t).toNat)
            case atStart => exact ⟨0, _, _, fa, by omega, rfl, ⟨hS3, hA3, q3, hR3⟩, ⟨by simpa using hfl, fun _ _ => rfl⟩, hB3⟩
            case round =>
              clear hS3 hA3 hB3 hR3 hfl q3 q4
              obtain ⟨m, Da, ha, fb, hm, rfl, ⟨hS, hA, hX, hR⟩, hfb, hbl⟩ := hrel
              by_cases hmt : m < R.length
              · obtain ⟨gR, cR, hsh⟩ := shape_pos hR (by omega)
                have hRcell : wr.cell? ⟨gR, m, none⟩ = some (.int .u64 ((at0 R m : Nat) : Int)) := by
                  obtain ⟨a2, c2, e2, hrow2, _⟩ := row_of_owns hR
                  obtain ⟨b2, o2, e3, _, hc3⟩ := hrow2.here hmt
                  rw [hsh] at e2
                  cases e2
                  cases e3
                  have := hc3 m hmt
                  rwa [Nat.zero_add] at this
                cases hsh
                obtain ⟨nx, hnx⟩ : ∃ nx, nx = at0 R m := ⟨_, rfl⟩
                have hnz : nx ∈ zs := HRC.out nx (hnx ▸ at0_mem hmt)
                have hkey2 := keyL (h64 nx hnz)
                have HN : Hid (nx = at0 R m) := hnx
                rw [← hnx] at hRcell
                clear hnx
                have hpp := pl_pos hnz
                obtain ⟨gn, cn, hsn⟩ := shape_pos (hS.rows nx) hpp
                have hln := hS.l nx
                have hrn := hS.rows nx
                rw [hsn] at hln hrn
                have hnews := hrn.cells (g := gn) rfl
                have hlm : ((pl zs nx zs.length).map encI).length = (pl zs nx zs.length).length * 1 := by simp
                have hone : ∀ u ∈ (pl zs nx zs.length).map encI, u.oneCell' = true := fun u hu => by
                  obtain ⟨z, _, rfl⟩ := List.mem_map.1 hu
                  rfl
                have hll := hA.l l
                have hrl := hA.rows l
                have hmA := hA.m
                have hmS := hS.m
                have htot : (fb l).length + (pl zs nx zs.length).length ≤ zs.length := by
                  have h8 := flatMap_take_len zs R zs.length (m + 1) hRn
                  rw [flatMap_take_succ hmt, ← HN.out, ← hfb.out.1, List.length_append] at h8
                  exact h8
                have hbs := hbl.size
                have hn63 : (fb l).length + (pl zs nx zs.length).length ≤ maxLen := by unfold maxLen; omega
                have hby : ((fb l).length + (pl zs nx zs.length).length) * 8 ≤ 140737488355328 := by omega
                have hroom : i * zs.length + m < maxLen := by
                  have h7 : i * zs.length ≤ 1048576 * 1048576 := Nat.mul_le_mul (by omega) hl
                  unfold maxLen; omega
                have hmb : some ba ≠ (ha l).ownBlock := fun e => by
                  obtain ⟨_, _, cur, hc⟩ := own_block hrl e.symm
                  obtain ⟨es, c, hm⟩ := map_block hmA
                  rw [hm] at hc; cases hc
                have HH : Hid (One wr w1.heap.size w1.heap.size zs.length D hs (fun x => pl zs x zs.length) ∧ One wr w1.heap.size ba (i * zs.length + m) Da ha fb ∧ Cross hs ha ∧ wr.ownsRow w1.heap.size 36 1 (.slice (some ⟨gR, 0, none⟩) R.length rcap) R.length (R.map encU)) := ⟨hS, hA, hX, hR⟩
                have HSN : Hid (hs nx = .slice (some ⟨gn, 0, none⟩) (pl zs nx zs.length).length cn) := hsn
                clear hS hA hX hR hsn hrn
                generalize hvl : ha l = vl at *
                have HV : Hid (ha l = vl) := hvl
                clear hvl
                have hmt2 : (m : Int) < (R.length : Int) := by omega
                have hR63 : (R.length : Int) ≤ 9223372036854775807 := by omega
                go_wp2_with (first | (at_lookup; refine look_hdr _ rfl (.tmp 57) (.tmp 58) rfl ba _ Da rfl hmA _ _ rfl hkey vl hll ?_) | (at_lookup; refine look_hdr _ rfl (.tmp 60) (.tmp 61) rfl w1.heap.size _ D rfl hmS _ _ rfl hkey2 _ hln ?_) | (at_builtin; refine wpList_append_own_at _ rfl (.tmp 59) (.tmp 62) 41 rfl w1.heap.size 3 i0 (.int .i64 0) 1 8 Try.underlying41 hi hz0 hz1 hz2 rfl (by omega) _ _ _ rfl hrl ⟨gn, 0, none⟩ (pl zs nx zs.length).length cn ((pl zs nx zs.length).map encI) rfl hlm hnews hone hn63 hby hbs ?_; intro v4 w4 hown4 hgrow4 hnil4 hat4; obtain ⟨d4, hd4⟩ := hdr_of_owns hown4; have hm4 := hmA.kept hgrow4 hmb) | (at_mapUpdate; refine wpList_mapUpdate_own _ rfl _ _ _ 51 rfl 36 41 keyedL Try.underlying51 hdrElem ba _ Da rfl hm4 hroom _ _ _ rfl rfl hkey d4 [] hd4 ?_; intro w5 hown5 hgrow5))
                obtain ⟨r1, r2, r3, r4⟩ := HH.out
                have hg4 : wr.grownBy w4 (ha l).ownBlock := by rw [HV.out]; exact hgrow4
                have hstep := step_above (L := fb l ++ pl zs nx zs.length) r1 r2 r3 r4 (Nat.ne_of_lt HBA.out.2) hg4 (by simpa using hown4) (by rw [HV.out]; exact hat4) hd4 hown5 hgrow5
                obtain ⟨s1, s2, s3, s4⟩ := hstep
                have hb5 : Below w1.heap.size w1 w5 := (hbl.grown hg4 hbl.size (fun j e => own_ge (r2.rows l) e)).grown hgrow5 (Nat.le_trans hbl.size hg4.size) (fun j e => by cases e; exact Nat.le_of_lt HBA.out.2)
                go_roundw
                case rel =>
                  refine ⟨m + 1, _, _, _, by omega, by go_num, ⟨s1, s2, s3, s4⟩, ⟨?_, fun y hy => ?_⟩, hb5⟩
                  · show (if l = l then _ else _) = _
                    rw [if_pos rfl, flatMap_take_succ hmt, ← HN.out, hfb.out.1]
                  · show (if y = l then _ else _) = _
                    rw [if_neg hy]; exact hfb.out.2 y hy
                case measure => simp [intOf]; omega
              · have he : m = R.length := by omega
                subst he
                have hll := hA.l l
                have hmA := hA.m
                have hlen : (fb l).length ≤ zs.length := by
                  have h8 := flatMap_take_len zs R zs.length R.length hRn
                  rw [← hfb.out.1] at h8
                  exact h8
                have hso := hM w1.heap.size (ha l) (fb l) wr (hA.rows l) (Nat.le_trans hlen hlM)
                have HH : Hid (One wr w1.heap.size w1.heap.size zs.length D hs (fun x => pl zs x zs.length) ∧ One wr w1.heap.size ba (i * zs.length + R.length) Da ha fb ∧ Cross hs ha) := ⟨hS, hA, hX⟩
                clear hS hA hX hR hlen
                generalize hvl : ha l = vl at *
                have HV : Hid (ha l = vl) := hvl
                clear hvl
                go_wp2_with (first | (at_lookup; refine look_hdr _ rfl _ _ rfl ba _ Da rfl hmA _ _ rfl hkey vl hll ?_) | (go_at_call 23; refine hso.mono ?_; rintro e w6 ⟨rfl, L, hLp, hLs, hLo, hLg⟩))
                obtain ⟨r1, r2, r3⟩ := HH.out
                have hg6 : wr.grownBy w6 (ha l).ownBlock := by rw [HV.out]; exact hLg
                have hbsl : some w1.heap.size ≠ (ha l).ownBlock := fun e => by
                  obtain ⟨_, _, cur, hc⟩ := own_block (r2.rows l) e.symm
                  obtain ⟨es, c, hm⟩ := map_block r1.m
                  rw [hm] at hc; cases hc
                have hS6 := r1.kept hg6 hbsl (fun x g e e2 => r3 x l g e e2.symm)
                have hA6 := (r2.turned (x := l) (zs := L) hg6 (by rw [HV.out]; exact hLo)).mono (m := (i + 1) * zs.length) (by rw [Nat.add_mul]; omega)
                have hb6 : Below w1.heap.size w1 w6 := hbl.grown hg6 hbl.size (fun j e => own_ge (r2.rows l) e)
                have hLL : L = abOf zs R zs.length := eq_abOf hRn (by have h9 := hfb.out.1; rw [List.take_length] at h9; rw [← h9]; exact hLp) hLs
                go_roundw
                case rel =>
                  refine ⟨i + 1, _, _, _, by omega, by go_num, ⟨hS6, hA6, r3, ⟨fun j hj => ?_, fun y hy => ?_⟩⟩, hb6⟩
                  · show (if at0 C j = l then _ else _) = _
                    by_cases e : j = i
                    · subst e
                      rw [if_pos HL.out.symm, hLL, ← HRR.out, HL.out]
                    · have hne : at0 C j ≠ l := fun e2 => by
                        rw [HL.out, ← at0_get (by omega : j < C.length), ← at0_get hlt] at e2
                        exact e ((List.getElem_inj hnd).1 e2)
                      rw [if_neg hne, hfb.out.2 _ hne]
                      exact HQ.out.2.2.2.1 j (by omega)
                  · show (if y = l then _ else _) = _
                    have hne : y ≠ l := fun e2 => hy i (by omega) (by rw [← HL.out]; exact e2.symm)
                    rw [if_neg hne, hfb.out.2 _ hne]
                    exact HQ.out.2.2.2.2 y (fun j hj => hy j (by omega))
                case measure => simp [intOf]; omega
        · have he : i = C.length := by omega
          subst he
          have hfl : ∀ y ∈ zs, (fa y).length ≤ zs.length := fun y hy => by
            obtain ⟨j, hj, rfl⟩ := mem_at0 ((HM.out.1 y).2 hy)
            rw [hO.1 j hj]; exact abOf_len _ _ _
          have hpl := prsTo_len zs fa zs.length hfl
          have HPL : Hid (∀ k, k ≤ zs.length → (prsTo zs fa k).length ≤ k * zs.length) := hpl
          have HFL : Hid (∀ y ∈ zs, (fa y).length ≤ zs.length) := hfl
          have HO : Hid (Above zs C fa C.length) := hO
          clear hpl hfl hO hS hX
          obtain ⟨j0, hj, hj0, hj1, hj2⟩ := info_parts infoPair
          go_wp2
          generalize wr = W4 at *
          go_loopw [12, 72] (fun v t _w => ∃ k : Nat, k ≤ zs.length ∧ t = .int .i64 k ∧ _w.ownsRow W4.heap.size 34 2 v (prsTo zs fa k).length ((prsTo zs fa k).flatMap encP) ∧ Below W4.heap.size W4 _w) (fun _ t _ => zs.length - (intOf t).toNat)
          case atStart => exact ⟨0, by omega, rfl, World.ownsRow_nil _ _ _ _, Below.refl _ _⟩
          case round =>
            obtain ⟨k, hk, rfl, hP, hb4⟩ := hrel
            by_cases hkt : k < zs.length
            · have hbA := hbl.trans (hb4.mono hbl.size)
              obtain ⟨b, o, rfl, _, hcc3⟩ := (hzr.below hbA).here hkt
              have hck := hcc3 k hkt
              obtain ⟨x, hx⟩ : ∃ x, x = at0 zs k := ⟨_, rfl⟩
              have hxz : x ∈ zs := hx ▸ at0_mem hkt
              have hkey := keyL (h64 x hxz)
              have HX : Hid (x = at0 zs k) := hx
              rw [← hx] at hck
              clear hx hcc3
              have hA4 := hA.below hb4
              have hlx := hA4.l x
              have hmA := hA4.m
              have hrx := hA.rows x
              have hfx := HFL.out x hxz
              have hk2 := HPL.out k hk
              have hk3 : k * zs.length ≤ 1048576 * 1048576 := Nat.mul_le_mul (by omega) hl
              obtain ⟨av, ac, hav⟩ := shape_any hrx
              rw [hav] at hlx hrx
              have HA : Hid (One W4 w1.heap.size ba (C.length * zs.length) Da ha fa) := hA
              have hfx63 : ((fa x).length : Int) ≤ 1048576 := by omega
              clear hA hA4 hav
              go_wp2_with (first | (at_lookup; refine look_hdr _ rfl _ _ rfl ba _ Da rfl hmA _ _ rfl hkey _ hlx ?_))
              clear hmA hlx
              go_loopw [12, 81] (fun v t _w => ∃ m : Nat, m ≤ (fa x).length ∧ t = .int .i64 m ∧ _w.ownsRow W4.heap.size 34 2 v (prsTo zs fa k ++ ((fa x).take m).map fun j => (k, j)).length ((prsTo zs fa k ++ ((fa x).take m).map fun j => (k, j)).flatMap encP) ∧ Below W4.heap.size W4 _w) (fun _ t _ => (fa x).length - (intOf t).toNat)
              case atStart => exact ⟨0, by omega, rfl, by simpa using hP, hb4⟩
              case round =>
                clear hP hb4 hbA
                obtain ⟨m, hm, rfl, hP, hb4⟩ := hrel
                by_cases hmt : m < (fa x).length
                · obtain ⟨gx, cx, hsh⟩ := shape_pos hrx (by omega)
                  cases hsh
                  have hcx := cellI hrx hmt
                  obtain ⟨_, hgx, _⟩ := own_block hrx (j := gx) rfl
                  rw [← hb4.cell (p := ⟨gx, m, none⟩) hgx] at hcx
                  obtain ⟨y, hy⟩ : ∃ y, y = at0 (fa x) m := ⟨_, rfl⟩
                  have HY : Hid (y = at0 (fa x) m) := hy
                  rw [← hy] at hcx
                  clear hy
                  have hplen : (prsTo zs fa k ++ ((fa x).take m).map fun j => (k, j)).length ≤ 1048576 * 1048576 + 1048576 := by
                    rw [List.length_append, List.length_map, List.length_take]; omega
                  have hbs := hb4.size
                  have hnx : (prsTo zs fa k ++ ((fa x).take (m + 1)).map fun j => (k, j)) = (prsTo zs fa k ++ ((fa x).take m).map fun j => (k, j)) ++ [(k, y)] := by
                    rw [List.take_succ_eq_append_getElem hmt, at0_get hmt, ← HY.out, List.map_append, ← List.append_assoc]; rfl
                  have HNX : Hid ((prsTo zs fa k ++ ((fa x).take (m + 1)).map fun j => (k, j)) = (prsTo zs fa k ++ ((fa x).take m).map fun j => (k, j)) ++ [(k, y)]) := hnx
                  clear hnx
                  generalize (prsTo zs fa k ++ ((fa x).take m).map fun j => (k, j)) = pr at *
                  have hn63 : pr.length + 1 ≤ maxLen := by unfold maxLen; omega
                  have hone : ∀ u ∈ [Value.int .i64 (k : Int), .int .i64 (y : Int)], u.oneCell' = true := by simp [Value.oneCell']
                  have hPa := hP.alloc (.cells #[.int .i64 (k : Int), .int .i64 (y : Int)] 34)
                  go_wp2_with (first | (at_builtin; refine wpList_append_own_at _ rfl _ _ 26 rfl W4.heap.size 34 j0 (.agg #[.int .i64 0, .int .i64 0]) 2 16 Try.underlying26 hj hj0 hj1 hj2 rfl (by omega) _ _ _ rfl hPa ⟨wr.heap.size, 0, none⟩ 1 1 [.int .i64 (k : Int), .int .i64 (y : Int)] rfl rfl (cell_two_new _ _ _ _) hone hn63 (by omega) (by simp; omega) ?_; intro v4 w4 hown4 hgrow4 hnil4 hat4))
                  have hb5 := hb4.alloc hbs (.cells #[.int .i64 (k : Int), .int .i64 (y : Int)] 34)
                  have hb6 := hb5.grown hgrow4 hb5.size (fun j e => own_ge hP e)
                  go_roundw
                  case rel =>
                    refine ⟨m + 1, by omega, by go_num, ?_, hb6⟩
                    rw [HNX.out, flat_one]
                    simpa using hown4
                  case measure => simp [intOf]; omega
                · have he : m = (fa x).length := by omega
                  subst he
                  go_wp2
                  go_roundw
                  case rel =>
                    refine ⟨k + 1, by omega, by go_num, ?_, hb4⟩
                    rw [List.take_length] at hP
                    rw [prsTo_succ, ← HX.out]
                    exact hP
                  case measure => simp [intOf]; omega
            · have he : k = zs.length := by omega
              subst he
              go_wp2
              go_ret
              have hbA := hbl.trans (hb4.mono hbl.size)
              have hws : w.heap.size ≤ W4.heap.size := Nat.le_trans hb1.size hbl.size
              refine ⟨hb1.trans (hbA.mono hb1.size), _, C, fa, rfl, HM.out.1, HM.out.2, HO.out, ?_⟩
              refine ⟨hP.1, ?_⟩
              rcases hP.2 with h0 | ⟨g, cp, cur, e, hbs, r⟩
              · exact .inl h0
              · exact .inr ⟨g, cp, cur, e, Nat.le_trans hws hbs, r⟩

end Go.Proofs.Ythclmkmajlinhab
