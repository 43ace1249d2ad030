/- What growing a closed set by one label does: it comes to the closure, or there are seventeen labels in it. -/
import Derived.Test.YthclmkmajlinhabClos
import Derived.Deep.AppendLies
import Derived.OpenShut
namespace Go.Proofs.Ythclmkmajlinhab
open Go.RowKit Go.Maps

theorem keyedL : Keyed Try.prog 36 := int_keyed Try.underlying36
theorem zeroUnit (w : World) : (zeroValue 60).run Try.prog w = .ok (.agg #[]) w := by kernel_rfl
theorem infoLab : (Try.prog.info? 36).map (fun i => (i.zero, i.size, i.bytes)) = some (some (.int .u64 0), 1, 8) := by kernel_rfl

theorem wf_u64 {x : Nat} (h : W64 x) : (Lit.int .u64 (x : Int)).wf = true := by
  unfold W64 at h
  simp [Lit.wf, IntKind.min, IntKind.max, IntKind.bits, IntKind.signed]
  omega

theorem keyL {x : Nat} (h : W64 x) : keyOf Try.prog 36 (.int .u64 (x : Int)) = some (.int .u64 (x : Int)) := keyOf_int_mk Try.underlying36 (wf_u64 h)

theorem pop_row {w : World} {base g cap : Nat} {W : List Nat} {x : Nat} (h : w.ownsRow base 36 1 (.slice (some ⟨g, 0, none⟩) (W ++ [x]).length cap) (W ++ [x]).length ((W ++ [x]).map encU)) :
    w.ownsRow base 36 1 (.slice (some ⟨g, 0, none⟩) W.length cap) W.length (W.map encU) := by
  have e1 : (W ++ [x]).length = W.length + 1 := by simp
  have e2 : (W ++ [x]).map encU = W.map encU ++ [encU x] := by simp
  rw [e1, e2] at h
  exact ownsRow_pop (by simp) h

theorem last_cell {w : World} {base g cap : Nat} {W : List Nat} {x : Nat} (h : w.ownsRow base 36 1 (.slice (some ⟨g, 0, none⟩) (W ++ [x]).length cap) (W ++ [x]).length ((W ++ [x]).map encU)) :
    w.cell? ⟨g, W.length, none⟩ = some (.int .u64 (x : Int)) ∧ W.length + 1 ≤ cap ∧ cap ≤ maxLen ∧ g < w.heap.size := by
  rcases h.2 with ⟨h0, _⟩ | ⟨g', cap', cur, hv, _, hh, hn, hcap, _, htake⟩
  · cases h0
  · cases hv
    refine ⟨?_, by simpa using hn, hcap, (Array.getElem?_eq_some_iff.1 hh).1⟩
    rw [cell_of_row _ _ _ _ _ _ hh]
    have h3 : (cur.toList.take ((W ++ [x]).length * 1))[W.length]? = ((W ++ [x]).map encU)[W.length]? := by rw [htake]
    rw [List.getElem?_take_of_lt (by simp)] at h3
    rw [← Array.getElem?_toList, h3]
    simp [encU]

theorem invKL : ∀ key kl, keyOf Try.prog 36 key = some kl → ∃ x : Nat, key = Value.int .u64 (x : Int) := fun key kl h => by
  obtain ⟨x, rfl, _, hw⟩ := keyOf_int_inv Try.underlying36 h
  have hb := bounds_u64 hw
  exact ⟨x.toNat, by rw [show ((x.toNat : Nat) : Int) = x from by omega]⟩
theorem keyL_inv {x : Nat} {kl : Lit} (h : keyOf Try.prog 36 (.int .u64 (x : Int)) = some kl) : kl = .int .u64 (x : Int) := by
  obtain ⟨y, e, rfl, _⟩ := keyOf_int_inv Try.underlying36 h
  rw [(Value.int.inj e).2]

theorem row_block {w : World} {base e g n cap : Nat} {xs : List Value} (h : w.ownsRow base e 1 (.slice (some ⟨g, 0, none⟩) n cap) n xs) : base ≤ g ∧ ∃ cur, w.heap[g]? = some (.cells cur e (0, 0)) := by
  rcases h.2 with ⟨h0, _⟩ | ⟨g', cap', cur, hv, hb, hh, _⟩
  · cases h0
  · cases hv; exact ⟨hb, cur, hh⟩

theorem ranges_blocks {w : World} {b r n : Nat} {D : DataW Unit} {left : Lit → Bool} {cnt : Nat} (h : w.ranges Try.prog 36 (unitElem (H := Unit)) b r n D left cnt) :
    (∃ es c, w.heap[b]? = some (.map es c)) ∧ ∃ o s q c, w.heap[r]? = some (.mapIter o s q c) := by
  obtain ⟨es, clock, since, seen, c0, hb, _, _, _, hr, _⟩ := h
  exact ⟨⟨_, _, hb⟩, _, _, _, _, hr⟩

set_option maxHeartbeats 1000000 in
theorem grow_any (b l : Nat) (D : DataW Unit) (S : List Nat) (w : World) (hl : W64 l) (hown : w.ownsMap Try.prog 36 (unitElem (H := Unit)) b S.length D) (hS : SetIs D S) (hcl : ClosedL S) (h16 : S.length ≤ 16) :
    Calls Try.prog 24 #[.map (some b), .int .u64 (l : Int)] w fun e w' => w.grownBy w' (some b) ∧
      ((e = .returned (.bool true) ∧ ∃ D' S', w'.ownsMap Try.prog 36 (unitElem (H := Unit)) b S'.length D' ∧ SetIs D' S' ∧ S'.length ≤ 16 ∧ ClosedL S' ∧ (∀ x ∈ l :: S, x ∈ S') ∧ ∀ x ∈ S', InCl (l :: S) x) ∨
       (e = .returned (.bool false) ∧ ∃ X : List Nat, X.Nodup ∧ X.length = 17 ∧ ∀ x ∈ X, InCl (l :: S) x)) := by
  obtain ⟨i0, hi, hz0, hz1, hz2⟩ := info_parts infoLab
  have HOWN : Hid (w.ownsMap Try.prog 36 (unitElem (H := Unit)) b S.length D) := hown
  have h64 : All64 (l :: S) := fun z hz => by
    rcases List.mem_cons.1 hz with e | hz
    · subst e; exact hl
    · exact hS.all z hz
  clear hown
  go_enter Try.func24, Try.ntmps24
  go_wp2
  go_loopw [5] (fun v wr => ∃ (Wl T : List Nat) (E : DataW Unit) (g cap : Nat), v = .slice (some ⟨g, 0, none⟩) Wl.length cap ∧ (wr.ownsRow w.heap.size 36 1 (.slice (some ⟨g, 0, none⟩) Wl.length cap) Wl.length (Wl.map encU) ∧
      wr.ownsMap Try.prog 36 (unitElem (H := Unit)) b T.length E ∧ SetIs E T ∧ Growing (l :: S) T Wl) ∧ w.grownBy wr (some b)) (fun v wr => 40 * (17 - mapLen wr b) + lenOf v)
  case atStart =>
    refine ⟨[l], S, D, w.heap.size, 1, rfl, ⟨?_, HOWN.out.alloc _, hS, Growing.start l hcl h16⟩, World.grownBy_alloc _ _ _⟩
    exact ⟨rfl, .inr ⟨_, _, _, rfl, Nat.le_refl _, heap_alloc_new w _, Nat.le_refl _, by unfold maxLen; omega, rfl, rfl⟩⟩
  case round =>
    obtain ⟨Wl, T, E, g, cap, rfl, ⟨hrow, hmap, hT, hG⟩, hgr⟩ := hrel
    by_cases hlt : 0 < Wl.length
    · obtain ⟨W, x, rfl⟩ : ∃ W x, Wl = W ++ [x] := ⟨Wl.dropLast, Wl.getLast (by intro e; simp [e] at hlt), (List.dropLast_concat_getLast _).symm⟩
      obtain ⟨hcell, hcap1, hcap2, hgs⟩ := last_cell hrow
      have hpop := pop_row hrow
      have hx64 : W64 x := (hG.inW x (by simp)).w64 h64
      have hkey := keyL hx64
      have hlen : (W ++ [x]).length = W.length + 1 := by simp
      have HH : Hid (wr.ownsMap Try.prog 36 (unitElem (H := Unit)) b T.length E ∧ SetIs E T ∧ Growing (l :: S) T (W ++ [x]) ∧ wr.ownsRow w.heap.size 36 1 (.slice (some ⟨g, 0, none⟩) W.length cap) W.length (W.map encU) ∧ w.grownBy wr (some b)) := ⟨hmap, hT, hG, hpop, hgr⟩
      have hsh := hG.short
      have hle := hG.len
      rw [hlen] at hsh
      have hhas := hT.has x
      clear hrow hpop hG hlt hT hgr
      unfold maxLen at hcap2
      rw [hlen]
      have hsz : Maps.size E = T.length := by rw [HH.out.2.1.size]
      cases hin : decide (x ∈ T)
      · rw [hin] at hhas
        by_cases hfull : T.length = 16
        · have ht16 : ((T.length : Int) == 16) = true := by simp [hfull]
          clear hfull
          go_wp2_with (first | (at_lookup; refine wpList_lookup_own_unit _ rfl _ _ 54 rfl 36 60 keyedL Try.underlying54 (zeroUnit _) b T.length E rfl hmap _ _ rfl hkey ?_) | (at_len; refine wpList_len_own _ rfl _ 54 rfl 36 60 Try.underlying54 _ b T.length E rfl (hmap.alloc _) ?_))
          go_ret
          obtain ⟨h1, h2, h3, h4, h5⟩ := HH.out
          have hl16 : T.length = 16 := by have := eq_of_beq ht16; omega
          refine ⟨h5.trans (World.grownBy_alloc _ _ _), .inr ⟨rfl, x :: T, List.nodup_cons.2 ⟨of_decide_eq_false hin, h2.nodup⟩, by simp [hl16], fun z hz => ?_⟩⟩
          rcases List.mem_cons.1 hz with e | hz
          · subst e; exact h3.inW z (by simp)
          · exact h3.inS z hz
        · have ht16 : ((T.length : Int) == 16) = false := by simp; omega
          go_wp2_with (first | (at_lookup; refine wpList_lookup_own_unit _ rfl _ _ 54 rfl 36 60 keyedL Try.underlying54 (zeroUnit _) b T.length E rfl hmap _ _ rfl hkey ?_) | (at_len; refine wpList_len_own _ rfl _ 54 rfl 36 60 Try.underlying54 _ b T.length E rfl (hmap.alloc _) ?_) | (at_range; refine wpList_range_own _ rfl _ 54 rfl 36 60 keyedL Try.underlying54 _ b T.length E rfl (hmap.alloc _) ?_; intro w0 hrg0 hg0 hs0))
          go_frame
          obtain ⟨h1, h2, h3, h4, h5⟩ := HH.out
          have hg1 : w.grownBy w0 (some b) := h5.trans ((World.grownBy_alloc _ _ _).trans (hg0.but _))
          have hrow0 : w0.ownsRow w.heap.size 36 1 (.slice (some ⟨g, 0, none⟩) W.length cap) W.length (W.map encU) := (h4.alloc _).kept hg0 (.inr (by simp [Value.ownBlock]))
          have hbr : w.heap.size ≤ (wr.alloc (.cells #[] 60)).heap.size := by have := h5.size; simp; omega
          have hwb : w.heap.size ≤ w0.heap.size := hg1.size
          obtain ⟨r, hr⟩ : ∃ r, (wr.alloc (.cells #[] 60)).heap.size = r := ⟨_, rfl⟩
          rw [hr] at hrg0 hs0 hbr ⊢
          have hall : ∀ y ∈ T, Maps.has E (.int .u64 (y : Int)) = true := fun y hy => by rw [h2.has]; simpa using hy
          have hpair := Paired.start (W := W) x hall
          rw [← hsz] at hpair
          have HP : Hid (Paired T W W x (Maps.has E) (Maps.size E)) := hpair
          have HX : Hid (x ∉ T) := of_decide_eq_false hin
          have HT : Hid (mapLen wr b = T.length) := by unfold Hid; rw [mapLen_eq h1, hsz]
          have hlt16 : T.length < 16 := by
            have h6 := beq_eq_false_iff_ne.1 ht16
            omega
          have HGS : Hid (SetIs E T ∧ Growing (l :: S) T (W ++ [x]) ∧ Maps.size E = T.length ∧ T.length < 16) := ⟨h2, h3, hsz, hlt16⟩
          clear hr hpair hall h2 h3 h4 h5 h1 hcell hhas hin hmap HH hgs hs0 hg0 hsz ht16
          go_loopw [5] (fun v w2 => ∃ (left : Lit → Bool) (cnt : Nat) (Wl : List Nat) (g2 cap2 : Nat), v = .slice (some ⟨g2, 0, none⟩) Wl.length cap2 ∧ (w2.ranges Try.prog 36 (unitElem (H := Unit)) b r T.length E left cnt ∧ Hid (Paired T W Wl x left cnt) ∧
              w2.ownsRow w.heap.size 36 1 (.slice (some ⟨g2, 0, none⟩) Wl.length cap2) Wl.length (Wl.map encU)) ∧ w.grownBy w2 (some b)) (fun _ w2 => w2.rangeLeft b r)
          case atStart => exact ⟨_, _, W, g, cap, rfl, ⟨hrg0, HP, hrow0⟩, hg1⟩
          case round =>
            clear hrg0 hrow0 hg1 HP hwb
            rename_i wr0 _ _
            obtain ⟨left, cnt, Wl, g2, cap2, rfl, ⟨hrg, hp, hrow⟩, hgr⟩ := hrel
            go_wp2_with (first | (at_next; refine wpList_next_ranges _ rfl _ rfl 36 keyedL (unitElem (H := Unit)) (fun n : Nat => Value.int .u64 (n : Int)) (fun _ : Unit => Value.agg #[]) invKL (fun v y hv => ⟨(), (unitElem_inv hv).1⟩) b r T.length E left cnt rfl hrg ?_ ?_))
            · intro hc0 hl0
              subst hc0
              have hkeyx := keyL hx64
              have hroom : T.length < maxLen := by unfold maxLen; omega
              have hmap2 := hrg.owns
              go_wp2_with (first | (at_mapUpdate; refine wpList_mapUpdate_own _ rfl _ _ _ 54 rfl 36 60 keyedL Try.underlying54 (unitElem (H := Unit)) b T.length E rfl hmap2 hroom _ _ _ rfl rfl hkeyx _ [] unitElem_mk ?_; intro w4 hown4 hgrow4))
              obtain ⟨q1, q2, q3, q4⟩ := HGS.out
              have hsp := q1.put (hmap2.tidy keyedL) HX.out hx64
              have hne : some g2 ≠ some b := fun e => by
                obtain ⟨_, cur, hc⟩ := row_block hrow
                obtain ⟨⟨es, c, hm⟩, _⟩ := ranges_blocks hrg
                cases e
                rw [hc] at hm; cases hm
              go_frame
              go_roundw
              case rel =>
                refine ⟨Wl, x :: T, _, g2, cap2, rfl, ⟨hrow.kept hgrow4 (.inr hne), ?_, hsp, q2.add q4 hp.out hl0⟩, hgr.trans hgrow4⟩
                exact hown4
              case measure =>
                have hm4 : mapLen w4 b = T.length + 1 := by rw [mapLen_eq hown4, hsp.size]; rfl
                have hp1 := hp.out.len
                have ht := HT.out
                simp [lenOf]
                omega
            · intro y c kl yy w3 cnt3 hkey3 hlk hv hat hrg3 hlt3 hg3 hs3 hen
              obtain rfl := keyL_inv hkey3
              have hyT : y ∈ T := by
                have h7 := has_true_of_atKey hat
                rw [HGS.out.1.has] at h7
                simpa using h7
              have hy64 : W64 y := HGS.out.1.all y hyT
              have hrow3 : w3.ownsRow w.heap.size 36 1 (.slice (some ⟨g2, 0, none⟩) Wl.length cap2) Wl.length (Wl.map encU) := hrow.kept hg3 (.inr (fun e => by
                obtain ⟨_, cur, hc⟩ := row_block hrow
                obtain ⟨_, o, s, q, c, hm⟩ := ranges_blocks hrg
                cases e
                rw [hc] at hm; cases hm))
              have hgr3 : w.grownBy w3 (some b) := hgr.andThen hg3 (fun j e => by cases e; exact .inl hbr)
              have hbase : w.heap.size ≤ w3.heap.size := hgr3.size
              have hlW : Wl.length ≤ 1000 := by have k1 := hp.out.len; have k2 := HGS.out.2.1.short; have k3 := HGS.out.2.1.len; rw [hlen] at k2; omega
              have hn63 : Wl.length + 2 ≤ maxLen := by unfold maxLen; omega
              have hone : ∀ u ∈ [Value.int .u64 ((x ||| y : Nat) : Int), .int .u64 ((x &&& y : Nat) : Int)], u.oneCell' = true := by simp [Value.oneCell']
              have HML : Hid (wr.rangeLeft b r = cnt ∧ g2 ≠ b ∧ g2 ≠ r ∧ w.heap.size ≤ g2) := by
                obtain ⟨hg2, cur, hc⟩ := row_block hrow
                obtain ⟨⟨es, c, hm⟩, o, s, q, c', hm'⟩ := ranges_blocks hrg
                refine ⟨hrg.left_eq, fun e => ?_, fun e => ?_, hg2⟩
                · subst e; rw [hc] at hm; cases hm
                · subst e; rw [hc] at hm'; cases hm'
              clear hlk hv hs3 hrg hrow hgr hg3 hat hkey3
              go_wp2_with fail
              refine (join_any _ _ _ hx64 hy64).mono ?_
              rintro e w' ⟨rfl, hq⟩
              have hq2 := hq.symm
              subst hq2
              go_wp2_with fail
              refine (meet_any _ _ _ hx64 hy64).mono ?_
              rintro e w' ⟨rfl, hq⟩
              have hq2 := hq.symm
              subst hq2
              go_wp2_with (at_builtin; (refine wpList_append_lies _ rfl _ _ 22 rfl w.heap.size 36 i0 (.int .u64 0) 1 8 Try.underlying22 hi hz0 hz1 hz2 rfl (by omega) _ _ _ rfl (hrow3.alloc _) ⟨w3.heap.size, 0, none⟩ 2 2 [.int .u64 ((x ||| y : Nat) : Int), .int .u64 ((x &&& y : Nat) : Int)] rfl rfl (cell_two_new _ _ _ _) hone (by omega) hn63 (by omega) (by simp; omega) (w3.heap.size + 1) (by simp) ?_); intro g4 cap4 w4 hown4 hgrow4 hat4 hlt4)
              obtain ⟨m1, m2, m3, m4⟩ := HML.out
              have hg5 : (w3.alloc (.cells #[.int .u64 ((x ||| y : Nat) : Int), .int .u64 ((x &&& y : Nat) : Int)] 36)).grownBy w4 (some g2) := hgrow4
              have hrg4 := (hrg3.alloc (.cells #[.int .u64 ((x ||| y : Nat) : Int), .int .u64 ((x &&& y : Nat) : Int)] 36)).kept hg5 (fun e => m2 (Option.some.inj e).symm) (fun e => m3 (Option.some.inj e).symm)
              go_roundw
              case rel =>
                refine ⟨_, cnt3, Wl ++ [x ||| y, x &&& y], g4, cap4, by simp, ⟨hrg4, hp.out.step hyT hlt3, by simpa [encU] using hown4⟩, ?_⟩
                exact (hgr3.trans (World.grownBy_alloc _ _ _)).andThen hg5 (fun j e => by cases e; exact .inl m4)
              case measure => rw [hrg4.left_eq, m1]; exact hlt3
      · rw [hin] at hhas
        go_wp2_with (first | (at_lookup; refine wpList_lookup_own_unit _ rfl _ _ 54 rfl 36 60 keyedL Try.underlying54 (zeroUnit _) b T.length E rfl hmap _ _ rfl hkey ?_))
        obtain ⟨h1, h2, h3, h4, h5⟩ := HH.out
        go_roundw
        case rel => exact ⟨W, T, E, g, cap, rfl, ⟨h4.alloc _, h1.alloc _, h2, h3.drop (of_decide_eq_true hin)⟩, h5.trans (World.grownBy_alloc _ _ _)⟩
        case measure =>
          rw [mapLen_eq (h1.alloc _), mapLen_eq h1]
          simp [lenOf]
    · have he : Wl = [] := List.eq_nil_of_length_eq_zero (by omega)
      subst he
      have HH : Hid (wr.ownsMap Try.prog 36 (unitElem (H := Unit)) b T.length E ∧ SetIs E T ∧ Growing (l :: S) T [] ∧ w.grownBy wr (some b)) := ⟨hmap, hT, hG, hgr⟩
      clear hrow hmap hT hG hgr
      go_wp2
      go_ret
      obtain ⟨h1, h2, h3, h4⟩ := HH.out
      exact ⟨h4, .inl ⟨rfl, E, T, h1, h2, h3.len, h3.end_.1, h3.end_.2.1, h3.end_.2.2⟩⟩

end Go.Proofs.Ythclmkmajlinhab
