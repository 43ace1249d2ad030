/- The document's Close, walked. -/
import Derived.Test.YthclmkmajlinhabRCl2
import Derived.Test.YthclmkmajlinhabReg
namespace Go.Proofs.Ythclmkmajlinhab
open Go.RowKit

theorem own_geU {w : World} {base : Nat} {v : Value} {zs : List Nat} (h : OwnU w base v zs) {j : Nat} (hj : v.ownBlock = some j) : base ≤ j := own_ge h hj
theorem rebaseU {w : World} {B B' : Nat} {v : Value} {zs : List Nat} (h : OwnU w B v zs) (hb : B' ≤ B) : OwnU w B' v zs := ⟨h.1, h.2.elim Or.inl (fun ⟨g, cap, cur, e, h3, r⟩ => Or.inr ⟨g, cap, cur, e, Nat.le_trans hb h3, r⟩)⟩
theorem hidden {p : Prop} (h : p) : Hid p := h
theorem ins_yes {al : List Nat} {x : Nat} (h : x ∈ al) : ins al x = al := if_pos h
theorem ins_no {al : List Nat} {x : Nat} (h : x ∉ al) : ins al x = al ++ [x] := if_neg h
theorem RS.start {zs al : List Nat} (hn : al.Nodup) (h1 : ∀ x ∈ al, x ∈ zs) (h2 : ∀ x ∈ zs, x ∈ al) : RS zs al 0 0 := ⟨hn, fun x hx => .base (h1 x hx), h2, fun p q hqp hp hor => by omega⟩

/-- What the document's Close answers. -/
def RClosed (zs : List Nat) (base : Nat) (e : Ending) (w' : World) : Prop :=
  (e = .returned (.tuple #[.slice none 0 0, .int .i64 10]) ∧ (zs = [] ∨ Many zs)) ∨ (∃ v C, e = .returned (.tuple #[v, .int .i64 0]) ∧ zs ≠ [] ∧ IsCl zs C ∧ OwnU w' base v C)

/-- What stands behind the first k labels. -/
structure Ded (zs al : List Nat) (k : Nat) : Prop where
  nodup : al.Nodup
  sub : ∀ x ∈ al, x ∈ zs
  all : ∀ i, i < k → at0 zs i ∈ al
theorem Ded.step {zs al : List Nat} {k : Nat} (h : Ded zs al k) (hk : k < zs.length) : Ded zs (ins al (at0 zs k)) (k + 1) :=
  by
  refine ⟨ins_nodup h.nodup, fun x hx => ?_, fun i hi => ?_⟩
  · rcases ins_inv hx with e | e
    · exact h.sub x e
    · subst e; exact at0_mem hk
  · by_cases e : i = k
    · subst e; exact ins_mem _ _
    · exact ins_sub (h.all i (by omega))
theorem Ded.many {zs al : List Nat} {k : Nat} (h : Ded zs al k) (hl : 16 < al.length) : Many zs :=
  ⟨al.take 17, h.nodup.sublist (List.take_sublist _ _), by rw [List.length_take]; omega, fun x hx => .base (h.sub x (List.mem_of_mem_take hx))⟩

set_option maxRecDepth 100000 in
set_option maxHeartbeats 8000000 in
theorem rclose_any (a : Option Addr) (cap : Nat) (zs : List Nat) (w : World) (hr : Row w a zs) (h64 : All64 zs) (hl : zs.length ≤ maxLen) :
    Calls Try.prog 7 #[.slice a zs.length cap] w fun e w' => RClosed zs w.heap.size e w' ∧ Below w.heap.size w w' := by
  unfold maxLen at hl
  go_enter Try.func7, Try.ntmps7
  go_wp2_with fail
  go_loopw [4, 5] (fun v i wr => ∃ (k : Nat) (al : List Nat), k ≤ zs.length ∧ i = .int .i64 k ∧ OwnU wr w.heap.size v al ∧ Ded zs al k ∧ al.length ≤ 16 ∧ Below w.heap.size w wr) (fun _ i _ => zs.length - (intOf i).toNat)
  case atStart => exact ⟨0, [], by omega, rfl, OwnU.nil _ _, ⟨by simp, (fun x hx => by cases hx), (fun i hi => by omega)⟩, by simp, Below.refl _ _⟩
  case round =>
    obtain ⟨k, al, hk, rfl, how, hde, h16, hbl⟩ := hrel
    by_cases hlt : k < zs.length
    · have hi1 : (k : Int) < (zs.length : Int) := by omega
      obtain ⟨b, o, rfl, _, hc⟩ := (hr.below hbl).here hlt
      have hck := hc k hlt
      have hst := hde.step hlt
      obtain ⟨z, hz⟩ : ∃ z, z = at0 zs k := ⟨_, rfl⟩
      rw [← hz] at hck hst
      obtain ⟨pa, pc, hv, hrow, _, _⟩ := how.row
      subst hv
      have hpl := rplace_any pa pc al z wr hrow (by unfold maxLen; omega)
      have hidx := idx_lt (zs := al) (x := z)
      have hbs := hbl.size
      clear hz hc
      by_cases hm : z ∈ al
      · rw [ins_yes hm] at hst
        have hd : decide (idx al z < 0) = false := by rw [hidx]; simp [hm]
        have hd16 : ¬ (16 : Int) < (al.length : Int) := by omega
        clear hidx hm
        go_wp2_with fail
        refine hpl.mono ?_
        rintro e w1 ⟨rfl, hq⟩
        have hq2 := hq.symm
        subst hq2
        clear hq hpl
        go_wp2_with fail
        go_roundw
        case rel => exact ⟨k + 1, al, by omega, by go_num, how, hst, h16, hbl⟩
        case measure => simp [intOf]; omega
      · rw [ins_no hm] at hst
        have hd : decide (idx al z < 0) = true := by rw [hidx]; simp [hm]
        clear hidx hm
        by_cases hd16 : al.length + 1 ≤ 16
        · have hd17 : ¬ (16 : Int) < ((al ++ [z]).length : Int) := by simp; omega
          have hd18 : ¬ (16 : Int) < (al.length : Int) + 1 := by omega
          have hd19 : ¬ 16 < al.length + 1 := by omega
          go_wp2_with fail
          refine hpl.mono ?_
          rintro e w1 ⟨rfl, hq⟩
          have hq2 := hq.symm
          subst hq2
          clear hq hpl
          go_wp2_with (at_builtin; refine wpList_append_u64 _ rfl _ _ rfl w.heap.size _ _ rfl how z rfl (by omega) (by omega) ?_; intro v4 w4 hown4 hg4; obtain ⟨pa4, pc4, hv4, hrow4, _, _⟩ := hown4.row; subst hv4)
          have hbl4 : Below w.heap.size w w4 := (hbl.alloc hbs _).grown hg4 (by simp; omega) (fun j e => own_geU how e)
          go_roundw
          case rel => exact ⟨k + 1, al ++ [z], by omega, by go_num, by simpa using hown4, hst, by simp; omega, hbl4⟩
          case measure => simp [intOf]; omega
        · have hd17 : (16 : Int) < ((al ++ [z]).length : Int) := by simp; omega
          have hd18 : (16 : Int) < (al.length : Int) + 1 := by omega
          have hd19 : 16 < al.length + 1 := by omega
          have hmany := hst.many (by simp; omega)
          have HM := hidden hmany
          clear hmany
          go_wp2_with fail
          refine hpl.mono ?_
          rintro e w1 ⟨rfl, hq⟩
          have hq2 := hq.symm
          subst hq2
          clear hq hpl
          go_wp2_with (at_builtin; refine wpList_append_u64 _ rfl _ _ rfl w.heap.size _ _ rfl how z rfl (by omega) (by omega) ?_; intro v4 w4 hown4 hg4; obtain ⟨pa4, pc4, hv4, hrow4, _, _⟩ := hown4.row; subst hv4)
          have hbl4 : Below w.heap.size w w4 := (hbl.alloc hbs _).grown hg4 (by simp; omega) (fun j e => own_geU how e)
          go_ret2
          exact ⟨.inl ⟨rfl, .inr HM.out⟩, hbl4⟩
    · have hkn : k = zs.length := by omega
      subst hkn
      obtain ⟨pa, pc, hv, hrow, _, _⟩ := how.row
      subst hv
      by_cases h0 : al.length = 0
      · have hzs : zs = [] := by
          cases zs with
          | nil => rfl
          | cons z t =>
            have := hde.all 0 (by simp)
            rw [List.eq_nil_of_length_eq_zero h0] at this
            cases this
        have HZ := hidden hzs
        have hd : ((al.length : Int) == 0) = true := by simp [h0]
        clear hzs h0
        go_wp2_with fail
        go_ret2
        exact ⟨.inl ⟨rfl, .inl HZ.out⟩, hbl⟩
      · have hd : ((al.length : Int) == 0) = false := by simp; intro e; exact h0 (by simp [e])
        have hne : zs ≠ [] := fun e => by
          subst e
          cases al with
          | nil => exact h0 rfl
          | cons s t => have := hde.sub s List.mem_cons_self; cases this
        have HNE := hidden hne
        have hrs : RS zs al 0 0 := RS.start hde.nodup hde.sub (fun x hx => by obtain ⟨i, hi, rfl⟩ := mem_at0 hx; exact hde.all i hi)
        have hpos : 0 < al.length := by omega
        clear hde hne h0
        go_wp2_with fail
        go_loopw [4, 6] (fun v i wq => ∃ (p : Nat) (al : List Nat), p ≤ al.length ∧ i = .int .i64 p ∧ OwnU wq w.heap.size v al ∧ RS zs al p 0 ∧ 0 < al.length ∧ al.length ≤ 16 ∧ Below w.heap.size w wq) (fun _ i _ => 17 - (intOf i).toNat)
        case atStart => exact ⟨0, al, by omega, rfl, how, hrs, hpos, h16, hbl⟩
        case round =>
          clear how hrs hpos h16 hbl hrow hd hk hlt
          obtain ⟨p, al, hp, rfl, how, hrs, hpos, h16, hbl⟩ := hrel
          by_cases hplt : p < al.length
          · obtain ⟨pa, pc, hv, hrow, _, _⟩ := how.row
            subst hv
            have hpi : (p : Int) < (al.length : Int) := by omega
            go_wp2_with fail
            go_loopw [4, 7] (fun v j wq => ∃ (q : Nat) (al : List Nat), q ≤ p ∧ j = .int .i64 q ∧ OwnU wq w.heap.size v al ∧ RS zs al p q ∧ p < al.length ∧ al.length ≤ 16 ∧ Below w.heap.size w wq) (fun _ j _ => p - (intOf j).toNat)
            case atStart => exact ⟨0, al, by omega, rfl, how, hrs, hplt, h16, hbl⟩
            case round =>
              clear how hrs hpos h16 hbl hrow hp hplt hpi
              obtain ⟨q, al, hq, rfl, how, hrs, hplt, h16, hbl⟩ := hrel
              by_cases hqp : q < p
              · have hqi : (q : Int) < (p : Int) := by omega
                have hst := hrs.pair hplt hqp
                have hX : W64 (at0 al p) := (hrs.sub _ (at0_mem hplt)).w64 h64
                have hY : W64 (at0 al q) := (hrs.sub _ (at0_mem (show q < al.length by omega))).w64 h64
                obtain ⟨X, hXe⟩ : ∃ X, X = at0 al p := ⟨_, rfl⟩
                obtain ⟨Y, hYe⟩ : ∃ Y, Y = at0 al q := ⟨_, rfl⟩
                obtain ⟨J, hJe⟩ : ∃ J, J = at0 al p ||| at0 al q := ⟨_, rfl⟩
                obtain ⟨M, hMe⟩ : ∃ M, M = at0 al p &&& at0 al q := ⟨_, rfl⟩
                have hJe' : X ||| Y = J := by rw [hJe, hXe, hYe]
                have hMe' : X &&& Y = M := by rw [hMe, hXe, hYe]
                have HJ := hidden hJe'
                have HM' := hidden hMe'
                have hpair : pair2 al p q = ins (ins al J) M := by rw [hJe, hMe]; rfl
                rw [hpair] at hst
                rw [← hXe] at hX
                rw [← hYe] at hY
                have HXe := hidden hXe
                have HYe := hidden hYe
                have hidx := idx_lt (zs := al) (x := J)
                clear hpair hJe hMe hJe' hMe' hrs hXe hYe
                obtain ⟨g, cp, rest, hv, hB, _, _, _, hbg⟩ := how.blk (by omega)
                subst hv
                have c1 := hB.cell hplt
                have c2 := hB.cell (show q < al.length by omega)
                rw [← HXe.out] at c1
                rw [← HYe.out] at c2
                have hgl := hB.lt
                have hpi1 : (p : Int) < (al.length : Int) := by omega
                have hqi1 : (q : Int) < (al.length : Int) := by omega
                obtain ⟨WW, hWW⟩ : ∃ W, W = wr := ⟨_, rfl⟩
                rw [← hWW] at how hB c1 c2 hgl hbl
                rw [← hWW]
                clear hWW hB
                go_wp2_with fail
                refine wp_region_held_drew (S := (fun w' => Below WW.heap.size WW w')) (by kernel_rfl) ?_ (fun hHeld => ?_)
                · exact (Below.refl _ _).drew
                refine take_on (i := 0) (v := ?_) rfl rfl (by kernel_rfl) (by kernel_rfl) (by kernel_rfl) (fun _ _ _ h => h) rfl ?_ hHeld ?_
                rotate_left
                · (intro wq hSq; have q1 := (hSq.cell (p := ⟨g, p, none⟩) hgl).trans c1; have q2 := (hSq.cell (p := ⟨g, q, none⟩) hgl).trans c2; go_simp <;> first | with_reducible rfl | rfl)
                simp only [Act.put, List.setIfInBounds_toArray, List.set_cons_zero, List.set_cons_succ]
                refine take_on (i := 1) (v := ?_) rfl rfl (by kernel_rfl) (by kernel_rfl) (by kernel_rfl) (fun _ _ _ h => h) rfl ?_ hHeld ?_
                rotate_left
                · (intro wq hSq; have q1 := (hSq.cell (p := ⟨g, p, none⟩) hgl).trans c1; have q2 := (hSq.cell (p := ⟨g, q, none⟩) hgl).trans c2; go_simp <;> first | with_reducible rfl | rfl)
                simp only [Act.put, List.setIfInBounds_toArray, List.set_cons_zero, List.set_cons_succ]
                refine take_on (i := 2) (v := ?_) rfl rfl (by kernel_rfl) (by kernel_rfl) (by kernel_rfl) (fun _ _ _ h => h) rfl ?_ hHeld ?_
                rotate_left
                · (intro wq hSq; have q1 := (hSq.cell (p := ⟨g, p, none⟩) hgl).trans c1; have q2 := (hSq.cell (p := ⟨g, q, none⟩) hgl).trans c2; go_simp <;> first | with_reducible rfl | rfl)
                simp only [Act.put, List.setIfInBounds_toArray, List.set_cons_zero, List.set_cons_succ]
                refine take_on (i := 3) (v := ?_) rfl rfl (by kernel_rfl) (by kernel_rfl) (by kernel_rfl) (fun _ _ _ h => h) rfl ?_ hHeld ?_
                rotate_left
                · (intro wq hSq; have q1 := (hSq.cell (p := ⟨g, p, none⟩) hgl).trans c1; have q2 := (hSq.cell (p := ⟨g, q, none⟩) hgl).trans c2; go_simp <;> first | with_reducible rfl | rfl)
                simp only [Act.put, List.setIfInBounds_toArray, List.set_cons_zero, List.set_cons_succ]
                refine take_on (i := 4) (v := ?_) rfl rfl (by kernel_rfl) (by kernel_rfl) (by kernel_rfl) (fun _ _ _ h => h) rfl ?_ hHeld ?_
                rotate_left
                · (intro wq hSq; have q1 := (hSq.cell (p := ⟨g, p, none⟩) hgl).trans c1; have q2 := (hSq.cell (p := ⟨g, q, none⟩) hgl).trans c2; go_simp <;> first | with_reducible rfl | rfl)
                simp only [Act.put, List.setIfInBounds_toArray, List.set_cons_zero, List.set_cons_succ]
                refine take_on (i := 5) (v := ?_) rfl rfl (by kernel_rfl) (by kernel_rfl) (by kernel_rfl) (fun _ _ _ h => h) rfl ?_ hHeld ?_
                rotate_left
                · (intro wq hSq; have q1 := (hSq.cell (p := ⟨g, p, none⟩) hgl).trans c1; have q2 := (hSq.cell (p := ⟨g, q, none⟩) hgl).trans c2; go_simp <;> first | with_reducible rfl | rfl)
                simp only [Act.put, List.setIfInBounds_toArray, List.set_cons_zero, List.set_cons_succ]
                refine take_on (i := 6) (v := ?_) rfl rfl (by kernel_rfl) (by kernel_rfl) (by kernel_rfl) (fun _ _ _ h => h) rfl ?_ hHeld ?_
                rotate_left
                · (intro wq hSq; have q1 := (hSq.cell (p := ⟨g, p, none⟩) hgl).trans c1; have q2 := (hSq.cell (p := ⟨g, q, none⟩) hgl).trans c2; go_simp <;> first | with_reducible rfl | rfl)
                simp only [Act.put, List.setIfInBounds_toArray, List.set_cons_zero, List.set_cons_succ]
                refine take_on (i := 7) (v := ?_) rfl rfl (by kernel_rfl) (by kernel_rfl) (by kernel_rfl) (fun _ _ _ h => h) rfl ?_ hHeld ?_
                rotate_left
                · (intro wq hSq; have q1 := (hSq.cell (p := ⟨g, p, none⟩) hgl).trans c1; have q2 := (hSq.cell (p := ⟨g, q, none⟩) hgl).trans c2; go_simp <;> first | with_reducible rfl | rfl)
                simp only [Act.put, List.setIfInBounds_toArray, List.set_cons_zero, List.set_cons_succ]
                refine take_one (i := 8) rfl (by kernel_rfl) (fun K hK => ?_)
                go_simp
                refine (rjoin_any X Y _ hX hY).mono ?_; rintro e y1 ⟨rfl, hb1⟩; have hS1 := hHeld.trans (hb1.mono hHeld.size); clear hb1
                try go_wp2_with fail
                refine hK.out _ _ ?_ (fun hHeld => ?_)
                · exact hS1
                clear hK K
                try simp only [Act.put, List.setIfInBounds_toArray, List.set_cons_zero, List.set_cons_succ]
                refine take_on (i := 9) (v := ?_) rfl rfl (by kernel_rfl) (by kernel_rfl) (by kernel_rfl) (fun _ _ _ h => h) rfl ?_ hHeld ?_
                rotate_left
                · (intro wq hSq; have q1 := (hSq.cell (p := ⟨g, p, none⟩) hgl).trans c1; have q2 := (hSq.cell (p := ⟨g, q, none⟩) hgl).trans c2; go_simp <;> first | with_reducible rfl | rfl)
                simp only [Act.put, List.setIfInBounds_toArray, List.set_cons_zero, List.set_cons_succ]
                refine wpAnyH_done (by kernel_rfl) ?_ _
                rw [HJ.out]
                have how1 := how.below hHeld
                have hbl1 := hbl.trans (hHeld.mono hbl.size)
                obtain ⟨_, _, hv2, hrow1, _, _⟩ := how1.row
                cases hv2
                have hpl := rplace_any _ cp al J _ hrow1 (by unfold maxLen; omega)
                clear how hbl hHeld c1 c2 hgl hS1
                by_cases hm1 : J ∈ al
                · rw [ins_yes hm1] at hst
                  have hd : decide (idx al J < 0) = false := by rw [hidx]; simp [hm1]
                  clear hidx hm1
                  go_wp2_with fail
                  refine hpl.mono ?_
                  rintro e z1 ⟨rfl, hq1⟩
                  have hq2 := hq1.symm
                  subst hq2
                  clear hq1 hpl
                  have hblp := hbl1
                  obtain ⟨_, _, rest1, hv3, hB1, _, _, _, _⟩ := how1.blk (by omega)
                  cases hv3
                  have HX4 := hidden HXe.out.symm
                  have HY4 := hidden HYe.out.symm
                  obtain ⟨W5, hW5⟩ : ∃ W, W = y1 := ⟨_, rfl⟩
                  rw [← hW5] at how1 hB1 hblp
                  rw [← hW5]
                  clear hW5 hbl1 hrow1
                  have hlA1 : p < al.length := by omega
                  have c1 := hB1.cell hlA1
                  have c2 := hB1.cell (show q < al.length by omega)
                  rw [HX4.out] at c1
                  rw [HY4.out] at c2
                  have hgl := hB1.lt
                  have hpi2 : (p : Int) < (al.length : Int) := by omega
                  have hqi2 : (q : Int) < (al.length : Int) := by omega
                  have hidx := idx_lt (zs := al) (x := M)
                  clear hB1
                  go_wp2_with fail
                  refine wp_region_held_drew (S := (fun w' => Below W5.heap.size W5 w')) (by kernel_rfl) ?_ (fun hHeld => ?_)
                  · exact (Below.refl _ _).drew
                  refine take_on (i := 0) (v := ?_) rfl rfl (by kernel_rfl) (by kernel_rfl) (by kernel_rfl) (fun _ _ _ h => h) rfl ?_ hHeld ?_
                  rotate_left
                  · (intro wq hSq; have q1 := (hSq.cell (p := ⟨g, p, none⟩) hgl).trans c1; have q2 := (hSq.cell (p := ⟨g, q, none⟩) hgl).trans c2; go_simp <;> first | with_reducible rfl | rfl)
                  simp only [Act.put, List.setIfInBounds_toArray, List.set_cons_zero, List.set_cons_succ]
                  refine take_on (i := 1) (v := ?_) rfl rfl (by kernel_rfl) (by kernel_rfl) (by kernel_rfl) (fun _ _ _ h => h) rfl ?_ hHeld ?_
                  rotate_left
                  · (intro wq hSq; have q1 := (hSq.cell (p := ⟨g, p, none⟩) hgl).trans c1; have q2 := (hSq.cell (p := ⟨g, q, none⟩) hgl).trans c2; go_simp <;> first | with_reducible rfl | rfl)
                  simp only [Act.put, List.setIfInBounds_toArray, List.set_cons_zero, List.set_cons_succ]
                  refine take_on (i := 2) (v := ?_) rfl rfl (by kernel_rfl) (by kernel_rfl) (by kernel_rfl) (fun _ _ _ h => h) rfl ?_ hHeld ?_
                  rotate_left
                  · (intro wq hSq; have q1 := (hSq.cell (p := ⟨g, p, none⟩) hgl).trans c1; have q2 := (hSq.cell (p := ⟨g, q, none⟩) hgl).trans c2; go_simp <;> first | with_reducible rfl | rfl)
                  simp only [Act.put, List.setIfInBounds_toArray, List.set_cons_zero, List.set_cons_succ]
                  refine take_on (i := 3) (v := ?_) rfl rfl (by kernel_rfl) (by kernel_rfl) (by kernel_rfl) (fun _ _ _ h => h) rfl ?_ hHeld ?_
                  rotate_left
                  · (intro wq hSq; have q1 := (hSq.cell (p := ⟨g, p, none⟩) hgl).trans c1; have q2 := (hSq.cell (p := ⟨g, q, none⟩) hgl).trans c2; go_simp <;> first | with_reducible rfl | rfl)
                  simp only [Act.put, List.setIfInBounds_toArray, List.set_cons_zero, List.set_cons_succ]
                  refine take_on (i := 4) (v := ?_) rfl rfl (by kernel_rfl) (by kernel_rfl) (by kernel_rfl) (fun _ _ _ h => h) rfl ?_ hHeld ?_
                  rotate_left
                  · (intro wq hSq; have q1 := (hSq.cell (p := ⟨g, p, none⟩) hgl).trans c1; have q2 := (hSq.cell (p := ⟨g, q, none⟩) hgl).trans c2; go_simp <;> first | with_reducible rfl | rfl)
                  simp only [Act.put, List.setIfInBounds_toArray, List.set_cons_zero, List.set_cons_succ]
                  refine take_on (i := 5) (v := ?_) rfl rfl (by kernel_rfl) (by kernel_rfl) (by kernel_rfl) (fun _ _ _ h => h) rfl ?_ hHeld ?_
                  rotate_left
                  · (intro wq hSq; have q1 := (hSq.cell (p := ⟨g, p, none⟩) hgl).trans c1; have q2 := (hSq.cell (p := ⟨g, q, none⟩) hgl).trans c2; go_simp <;> first | with_reducible rfl | rfl)
                  simp only [Act.put, List.setIfInBounds_toArray, List.set_cons_zero, List.set_cons_succ]
                  refine take_on (i := 6) (v := ?_) rfl rfl (by kernel_rfl) (by kernel_rfl) (by kernel_rfl) (fun _ _ _ h => h) rfl ?_ hHeld ?_
                  rotate_left
                  · (intro wq hSq; have q1 := (hSq.cell (p := ⟨g, p, none⟩) hgl).trans c1; have q2 := (hSq.cell (p := ⟨g, q, none⟩) hgl).trans c2; go_simp <;> first | with_reducible rfl | rfl)
                  simp only [Act.put, List.setIfInBounds_toArray, List.set_cons_zero, List.set_cons_succ]
                  refine take_on (i := 7) (v := ?_) rfl rfl (by kernel_rfl) (by kernel_rfl) (by kernel_rfl) (fun _ _ _ h => h) rfl ?_ hHeld ?_
                  rotate_left
                  · (intro wq hSq; have q1 := (hSq.cell (p := ⟨g, p, none⟩) hgl).trans c1; have q2 := (hSq.cell (p := ⟨g, q, none⟩) hgl).trans c2; go_simp <;> first | with_reducible rfl | rfl)
                  simp only [Act.put, List.setIfInBounds_toArray, List.set_cons_zero, List.set_cons_succ]
                  refine take_one (i := 8) rfl (by kernel_rfl) (fun K hK => ?_)
                  go_simp
                  refine (rmeet_any X Y _ hX hY).mono ?_; rintro e y2 ⟨rfl, hb2⟩; have hS2 := hHeld.trans (hb2.mono hHeld.size); clear hb2
                  try go_wp2_with fail
                  refine hK.out _ _ ?_ (fun hHeld => ?_)
                  · exact hS2
                  clear hK K
                  try simp only [Act.put, List.setIfInBounds_toArray, List.set_cons_zero, List.set_cons_succ]
                  refine take_on (i := 9) (v := ?_) rfl rfl (by kernel_rfl) (by kernel_rfl) (by kernel_rfl) (fun _ _ _ h => h) rfl ?_ hHeld ?_
                  rotate_left
                  · (intro wq hSq; have q1 := (hSq.cell (p := ⟨g, p, none⟩) hgl).trans c1; have q2 := (hSq.cell (p := ⟨g, q, none⟩) hgl).trans c2; go_simp <;> first | with_reducible rfl | rfl)
                  simp only [Act.put, List.setIfInBounds_toArray, List.set_cons_zero, List.set_cons_succ]
                  refine wpAnyH_done (by kernel_rfl) ?_ _
                  rw [HM'.out]
                  have how2 := how1.below hHeld
                  have hbl2 := hblp.trans (hHeld.mono hblp.size)
                  obtain ⟨_, _, hv2, hrow2, _, _⟩ := how2.row
                  cases hv2
                  have hpl := rplace_any _ cp al M _ hrow2 (by unfold maxLen; omega)
                  clear how1 hblp hHeld c1 c2 hgl hS2
                  by_cases hm2 : M ∈ al
                  · rw [ins_yes hm2] at hst
                    have hd2 : decide (idx al M < 0) = false := by rw [hidx]; simp [hm2]
                    clear hidx hm2
                    by_cases h17 : al.length ≤ 16
                    · have hd3 : ¬ (16 : Int) < (al.length : Int) := by omega
                      go_wp2_with fail
                      refine hpl.mono ?_
                      rintro e z1 ⟨rfl, hq1⟩
                      have hq2 := hq1.symm
                      subst hq2
                      clear hq1 hpl
                      go_wp2_with fail
                      go_roundw
                      case rel => exact ⟨q + 1, al, by omega, by go_num, how2, hst, by omega, h17, hbl2⟩
                      case measure => simp [intOf]; omega
                    · have hd3 : (16 : Int) < (al.length : Int) := by omega
                      have HMY := hidden (hst.many (by omega))
                      go_wp2_with fail
                      refine hpl.mono ?_
                      rintro e z1 ⟨rfl, hq1⟩
                      have hq2 := hq1.symm
                      subst hq2
                      clear hq1 hpl
                      go_wp2_with fail
                      go_ret2
                      exact ⟨.inl ⟨rfl, .inr HMY.out⟩, hbl2⟩
                  · rw [ins_no hm2] at hst
                    have hd2 : decide (idx al M < 0) = true := by rw [hidx]; simp [hm2]
                    have hbs2 := hbl2.size
                    obtain ⟨A2, hA2⟩ : ∃ A2, A2 = al ++ [M] := ⟨_, rfl⟩
                    have HA2 := hidden hA2
                    have hlA2 : A2.length = al.length + 1 := by rw [hA2]; simp
                    have HLA2 := hidden hlA2
                    rw [← hA2] at hst
                    clear hidx hm2 hA2 hlA2
                    by_cases h17 : al.length + 1 ≤ 16
                    · have hd3 : ¬ (16 : Int) < (A2.length : Int) := by have := HLA2.out; omega
                      go_wp2_with fail
                      refine hpl.mono ?_
                      rintro e z1 ⟨rfl, hq1⟩
                      have hq2 := hq1.symm
                      subst hq2
                      clear hq1 hpl
                      go_wp2_with (at_builtin; refine wpList_append_u64 _ rfl _ _ rfl w.heap.size _ _ rfl how2 M rfl (by omega) (by omega) ?_; intro v6 w6 hown6 hg6; rw [← HA2.out] at hown6; obtain ⟨g6, pc6, rest6, hv6, hB6, _, _, _, _⟩ := hown6.blk (by have := HLA2.out; omega); subst hv6)
                      have hbl6 : Below w.heap.size w w6 := (hbl2.alloc hbs2 _).grown hg6 (by simp; omega) (fun j e => own_geU how2 e)
                      go_roundw
                      case rel => exact ⟨q + 1, A2, by omega, by go_num, hown6, hst, by have := HLA2.out; omega, by have := HLA2.out; omega, hbl6⟩
                      case measure => simp [intOf]; omega
                    · have hd3 : (16 : Int) < (A2.length : Int) := by have := HLA2.out; omega
                      have HMY := hidden (hst.many (by have := HLA2.out; omega))
                      go_wp2_with fail
                      refine hpl.mono ?_
                      rintro e z1 ⟨rfl, hq1⟩
                      have hq2 := hq1.symm
                      subst hq2
                      clear hq1 hpl
                      go_wp2_with (at_builtin; refine wpList_append_u64 _ rfl _ _ rfl w.heap.size _ _ rfl how2 M rfl (by omega) (by omega) ?_; intro v6 w6 hown6 hg6; rw [← HA2.out] at hown6; obtain ⟨g6, pc6, rest6, hv6, hB6, _, _, _, _⟩ := hown6.blk (by have := HLA2.out; omega); subst hv6)
                      have hbl6 : Below w.heap.size w w6 := (hbl2.alloc hbs2 _).grown hg6 (by simp; omega) (fun j e => own_geU how2 e)
                      go_ret2
                      exact ⟨.inl ⟨rfl, .inr HMY.out⟩, hbl6⟩
                · rw [ins_no hm1] at hst
                  have hd : decide (idx al J < 0) = true := by rw [hidx]; simp [hm1]
                  clear hidx hm1
                  have hbs1 := hbl1.size
                  go_wp2_with fail
                  refine hpl.mono ?_
                  rintro e z1 ⟨rfl, hq1⟩
                  have hq2 := hq1.symm
                  subst hq2
                  clear hq1 hpl
                  obtain ⟨A1, hA1⟩ : ∃ A1, A1 = al ++ [J] := ⟨_, rfl⟩
                  have HA1 := hidden hA1
                  have hlA1' : A1.length = al.length + 1 := by rw [hA1]; simp
                  have HLA1 := hidden hlA1'
                  have HX4 : Hid (at0 A1 p = X) := by
                    show _ = _
                    rw [HXe.out, hA1]; unfold at0; rw [List.getD_eq_getElem?_getD, List.getD_eq_getElem?_getD, List.getElem?_append_left hplt]
                  have HY4 : Hid (at0 A1 q = Y) := by
                    show _ = _
                    rw [HYe.out, hA1]; unfold at0; rw [List.getD_eq_getElem?_getD, List.getD_eq_getElem?_getD, List.getElem?_append_left (by omega)]
                  rw [← hA1] at hst
                  clear hA1 hlA1'
                  go_wp2_with (at_builtin; refine wpList_append_u64 _ rfl _ _ rfl w.heap.size _ _ rfl how1 J rfl (by omega) (by omega) ?_; intro v4 w4 hown4 hg4; rw [← HA1.out] at hown4; obtain ⟨g4, pc4, rest4, hv4, hB4, _, _, _, _⟩ := hown4.blk (by have := HLA1.out; omega); subst hv4)
                  have hblp : Below w.heap.size w w4 := (hbl1.alloc hbs1 _).grown hg4 (by simp; omega) (fun j e => own_geU how1 e)
                  have b1 : A1.length ≤ 17 := by have := HLA1.out; omega
                  have b2 : al.length < A1.length := by have := HLA1.out; omega
                  clear how1 hbl1 hrow1 hg4 hbs1
                  have hlA1 : p < A1.length := by omega
                  have c1 := hB4.cell hlA1
                  have c2 := hB4.cell (show q < A1.length by omega)
                  rw [HX4.out] at c1
                  rw [HY4.out] at c2
                  have hgl := hB4.lt
                  have hpi2 : (p : Int) < (A1.length : Int) := by omega
                  have hqi2 : (q : Int) < (A1.length : Int) := by omega
                  have hidx := idx_lt (zs := A1) (x := M)
                  clear hB4
                  go_wp2_with fail
                  refine wp_region_held_drew (S := (fun w' => Below w4.heap.size w4 w')) (by kernel_rfl) ?_ (fun hHeld => ?_)
                  · exact (Below.refl _ _).drew
                  refine take_on (i := 0) (v := ?_) rfl rfl (by kernel_rfl) (by kernel_rfl) (by kernel_rfl) (fun _ _ _ h => h) rfl ?_ hHeld ?_
                  rotate_left
                  · (intro wq hSq; have q1 := (hSq.cell (p := ⟨g4, p, none⟩) hgl).trans c1; have q2 := (hSq.cell (p := ⟨g4, q, none⟩) hgl).trans c2; go_simp <;> first | with_reducible rfl | rfl)
                  simp only [Act.put, List.setIfInBounds_toArray, List.set_cons_zero, List.set_cons_succ]
                  refine take_on (i := 1) (v := ?_) rfl rfl (by kernel_rfl) (by kernel_rfl) (by kernel_rfl) (fun _ _ _ h => h) rfl ?_ hHeld ?_
                  rotate_left
                  · (intro wq hSq; have q1 := (hSq.cell (p := ⟨g4, p, none⟩) hgl).trans c1; have q2 := (hSq.cell (p := ⟨g4, q, none⟩) hgl).trans c2; go_simp <;> first | with_reducible rfl | rfl)
                  simp only [Act.put, List.setIfInBounds_toArray, List.set_cons_zero, List.set_cons_succ]
                  refine take_on (i := 2) (v := ?_) rfl rfl (by kernel_rfl) (by kernel_rfl) (by kernel_rfl) (fun _ _ _ h => h) rfl ?_ hHeld ?_
                  rotate_left
                  · (intro wq hSq; have q1 := (hSq.cell (p := ⟨g4, p, none⟩) hgl).trans c1; have q2 := (hSq.cell (p := ⟨g4, q, none⟩) hgl).trans c2; go_simp <;> first | with_reducible rfl | rfl)
                  simp only [Act.put, List.setIfInBounds_toArray, List.set_cons_zero, List.set_cons_succ]
                  refine take_on (i := 3) (v := ?_) rfl rfl (by kernel_rfl) (by kernel_rfl) (by kernel_rfl) (fun _ _ _ h => h) rfl ?_ hHeld ?_
                  rotate_left
                  · (intro wq hSq; have q1 := (hSq.cell (p := ⟨g4, p, none⟩) hgl).trans c1; have q2 := (hSq.cell (p := ⟨g4, q, none⟩) hgl).trans c2; go_simp <;> first | with_reducible rfl | rfl)
                  simp only [Act.put, List.setIfInBounds_toArray, List.set_cons_zero, List.set_cons_succ]
                  refine take_on (i := 4) (v := ?_) rfl rfl (by kernel_rfl) (by kernel_rfl) (by kernel_rfl) (fun _ _ _ h => h) rfl ?_ hHeld ?_
                  rotate_left
                  · (intro wq hSq; have q1 := (hSq.cell (p := ⟨g4, p, none⟩) hgl).trans c1; have q2 := (hSq.cell (p := ⟨g4, q, none⟩) hgl).trans c2; go_simp <;> first | with_reducible rfl | rfl)
                  simp only [Act.put, List.setIfInBounds_toArray, List.set_cons_zero, List.set_cons_succ]
                  refine take_on (i := 5) (v := ?_) rfl rfl (by kernel_rfl) (by kernel_rfl) (by kernel_rfl) (fun _ _ _ h => h) rfl ?_ hHeld ?_
                  rotate_left
                  · (intro wq hSq; have q1 := (hSq.cell (p := ⟨g4, p, none⟩) hgl).trans c1; have q2 := (hSq.cell (p := ⟨g4, q, none⟩) hgl).trans c2; go_simp <;> first | with_reducible rfl | rfl)
                  simp only [Act.put, List.setIfInBounds_toArray, List.set_cons_zero, List.set_cons_succ]
                  refine take_on (i := 6) (v := ?_) rfl rfl (by kernel_rfl) (by kernel_rfl) (by kernel_rfl) (fun _ _ _ h => h) rfl ?_ hHeld ?_
                  rotate_left
                  · (intro wq hSq; have q1 := (hSq.cell (p := ⟨g4, p, none⟩) hgl).trans c1; have q2 := (hSq.cell (p := ⟨g4, q, none⟩) hgl).trans c2; go_simp <;> first | with_reducible rfl | rfl)
                  simp only [Act.put, List.setIfInBounds_toArray, List.set_cons_zero, List.set_cons_succ]
                  refine take_on (i := 7) (v := ?_) rfl rfl (by kernel_rfl) (by kernel_rfl) (by kernel_rfl) (fun _ _ _ h => h) rfl ?_ hHeld ?_
                  rotate_left
                  · (intro wq hSq; have q1 := (hSq.cell (p := ⟨g4, p, none⟩) hgl).trans c1; have q2 := (hSq.cell (p := ⟨g4, q, none⟩) hgl).trans c2; go_simp <;> first | with_reducible rfl | rfl)
                  simp only [Act.put, List.setIfInBounds_toArray, List.set_cons_zero, List.set_cons_succ]
                  refine take_one (i := 8) rfl (by kernel_rfl) (fun K hK => ?_)
                  go_simp
                  refine (rmeet_any X Y _ hX hY).mono ?_; rintro e y2 ⟨rfl, hb2⟩; have hS2 := hHeld.trans (hb2.mono hHeld.size); clear hb2
                  try go_wp2_with fail
                  refine hK.out _ _ ?_ (fun hHeld => ?_)
                  · exact hS2
                  clear hK K
                  try simp only [Act.put, List.setIfInBounds_toArray, List.set_cons_zero, List.set_cons_succ]
                  refine take_on (i := 9) (v := ?_) rfl rfl (by kernel_rfl) (by kernel_rfl) (by kernel_rfl) (fun _ _ _ h => h) rfl ?_ hHeld ?_
                  rotate_left
                  · (intro wq hSq; have q1 := (hSq.cell (p := ⟨g4, p, none⟩) hgl).trans c1; have q2 := (hSq.cell (p := ⟨g4, q, none⟩) hgl).trans c2; go_simp <;> first | with_reducible rfl | rfl)
                  simp only [Act.put, List.setIfInBounds_toArray, List.set_cons_zero, List.set_cons_succ]
                  refine wpAnyH_done (by kernel_rfl) ?_ _
                  rw [HM'.out]
                  have how2 := hown4.below hHeld
                  have hbl2 := hblp.trans (hHeld.mono hblp.size)
                  obtain ⟨_, _, hv2, hrow2, _, _⟩ := how2.row
                  cases hv2
                  have hpl := rplace_any _ pc4 A1 M _ hrow2 (by unfold maxLen; omega)
                  clear hown4 hblp hHeld c1 c2 hgl hS2
                  by_cases hm2 : M ∈ A1
                  · rw [ins_yes hm2] at hst
                    have hd2 : decide (idx A1 M < 0) = false := by rw [hidx]; simp [hm2]
                    clear hidx hm2
                    by_cases h17 : A1.length ≤ 16
                    · have hd3 : ¬ (16 : Int) < (A1.length : Int) := by omega
                      go_wp2_with fail
                      refine hpl.mono ?_
                      rintro e z1 ⟨rfl, hq1⟩
                      have hq2 := hq1.symm
                      subst hq2
                      clear hq1 hpl
                      go_wp2_with fail
                      go_roundw
                      case rel => exact ⟨q + 1, A1, by omega, by go_num, how2, hst, by omega, h17, hbl2⟩
                      case measure => simp [intOf]; omega
                    · have hd3 : (16 : Int) < (A1.length : Int) := by omega
                      have HMY := hidden (hst.many (by omega))
                      go_wp2_with fail
                      refine hpl.mono ?_
                      rintro e z1 ⟨rfl, hq1⟩
                      have hq2 := hq1.symm
                      subst hq2
                      clear hq1 hpl
                      go_wp2_with fail
                      go_ret2
                      exact ⟨.inl ⟨rfl, .inr HMY.out⟩, hbl2⟩
                  · rw [ins_no hm2] at hst
                    have hd2 : decide (idx A1 M < 0) = true := by rw [hidx]; simp [hm2]
                    have hbs2 := hbl2.size
                    obtain ⟨A2, hA2⟩ : ∃ A2, A2 = A1 ++ [M] := ⟨_, rfl⟩
                    have HA2 := hidden hA2
                    have hlA2 : A2.length = A1.length + 1 := by rw [hA2]; simp
                    have HLA2 := hidden hlA2
                    rw [← hA2] at hst
                    clear hidx hm2 hA2 hlA2
                    by_cases h17 : A1.length + 1 ≤ 16
                    · have hd3 : ¬ (16 : Int) < (A2.length : Int) := by have := HLA2.out; omega
                      go_wp2_with fail
                      refine hpl.mono ?_
                      rintro e z1 ⟨rfl, hq1⟩
                      have hq2 := hq1.symm
                      subst hq2
                      clear hq1 hpl
                      go_wp2_with (at_builtin; refine wpList_append_u64 _ rfl _ _ rfl w.heap.size _ _ rfl how2 M rfl (by omega) (by omega) ?_; intro v6 w6 hown6 hg6; rw [← HA2.out] at hown6; obtain ⟨g6, pc6, rest6, hv6, hB6, _, _, _, _⟩ := hown6.blk (by have := HLA2.out; omega); subst hv6)
                      have hbl6 : Below w.heap.size w w6 := (hbl2.alloc hbs2 _).grown hg6 (by simp; omega) (fun j e => own_geU how2 e)
                      go_roundw
                      case rel => exact ⟨q + 1, A2, by omega, by go_num, hown6, hst, by have := HLA2.out; omega, by have := HLA2.out; omega, hbl6⟩
                      case measure => simp [intOf]; omega
                    · have hd3 : (16 : Int) < (A2.length : Int) := by have := HLA2.out; omega
                      have HMY := hidden (hst.many (by have := HLA2.out; omega))
                      go_wp2_with fail
                      refine hpl.mono ?_
                      rintro e z1 ⟨rfl, hq1⟩
                      have hq2 := hq1.symm
                      subst hq2
                      clear hq1 hpl
                      go_wp2_with (at_builtin; refine wpList_append_u64 _ rfl _ _ rfl w.heap.size _ _ rfl how2 M rfl (by omega) (by omega) ?_; intro v6 w6 hown6 hg6; rw [← HA2.out] at hown6; obtain ⟨g6, pc6, rest6, hv6, hB6, _, _, _, _⟩ := hown6.blk (by have := HLA2.out; omega); subst hv6)
                      have hbl6 : Below w.heap.size w w6 := (hbl2.alloc hbs2 _).grown hg6 (by simp; omega) (fun j e => own_geU how2 e)
                      go_ret2
                      exact ⟨.inl ⟨rfl, .inr HMY.out⟩, hbl6⟩
              · have hqe : q = p := by omega
                subst hqe
                go_wp2_with fail
                go_roundw
                case rel => exact ⟨q + 1, al, by omega, by go_num, how, hrs.next, by omega, h16, hbl⟩
                case measure => simp [intOf]; omega
          · have hpe : al.length ≤ p := by omega
            obtain ⟨g, cp, rest, hv, hB, _, _, _, _⟩ := how.blk hpos
            obtain ⟨pa, pc, hv2, hrow, _, _⟩ := how.row
            rw [hv] at hv2
            cases hv2
            subst hv
            have hri := rising_any _ cp al _ hrow hpos (by omega)
            have hpi : ¬ (p : Int) < (al.length : Int) := by omega
            clear hB how
            go_wp2_with fail
            refine hri.mono ?_
            rintro e w1 ⟨⟨v, C, rfl, hperm, hso, hown⟩, hb1⟩
            have hcl := IsCl.of hrs hpe h16 hperm hso
            have hbl1 := hbl.trans (hb1.mono hbl.size)
            have hown' : OwnU w1 w.heap.size v C := rebaseU hown hbl.size
            clear hri hrs hperm hso
            go_wp2_with fail
            go_ret2
            exact ⟨.inr ⟨v, C, rfl, HNE.out, hcl, hown'⟩, hbl1⟩

end Go.Proofs.Ythclmkmajlinhab
