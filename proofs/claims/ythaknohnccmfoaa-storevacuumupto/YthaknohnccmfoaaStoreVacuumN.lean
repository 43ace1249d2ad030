/- Load, walked. A store's versions, loaded, are the store. A Vacuum: what goes, and what is told behind it. Two stores, one behind a Vacuum: what both answer. The law on a Vacuum, walked. Opening lists of versions and of steps of bulk at most 1048576. The statement about StoreVacuum, proved where what comes in is of bulk at most 1048576: the law answers true and leaves its arguments as they were. -/
import Derived.Test.YthaknohnccmfoaaSo32
import Derived.Test.YthaknohnccmfoaaOpenVsn
import Derived.Test.YthaknohnccmfoaaOpenStv
import Derived.Test.YthaknohnccmfoaaBulk
import Derived.Test.YthaknohnccmfoaaOpenB
import Derived.Deep.CondSized
namespace Go.Proofs.Ythaknohnccmfoaa
open Go.RowKit Go.Maps

/-- What a store is that takes versions as long as they are taken, and the first error. -/
def loadA (A : Cont) : List Vn → Cont × Int
  | [] => (A, 0)
  | y :: r => if applyE A y = 0 then loadA (applyA A y) r else (A, applyE A y)
theorem Fil.appV {w z : World} {s : Nat} {A : Cont} (h : Fil w z s A) (hf : Fine A) (y : Vn) (hy : VnOk w y) : Calls Try.prog 31 #[.pointer (some ⟨s, 0, none⟩), verV y] z fun e z' => e = .returned (.int .i64 (applyE A y)) ∧ Fil w z' s (applyA A y) := by
  obtain ⟨F, mb, M, hs, rfl, hl⟩ := h.st
  refine (apply_any hs y (hy.below h.bel) (fun b o h0 e hb => by
    have h1 := hl b hb
    rcases hy.row with h2 | ⟨b2, o2, e2, h3, _⟩
    · omega
    · rw [e] at e2; cases e2; omega) hf.tot (by have := hf.keys; simpa [abs] using this)).mono ?_
  rintro e z' ⟨rfl, h2⟩
  obtain ⟨mb', M', q1, q2⟩ := h2.st
  refine ⟨rfl, ⟨_, mb', M', q1, q2, fun j hj => ?_⟩, h.bel.trans (h2.chg.below hl h.bel.size)⟩
  rcases hj with hj | hj
  · exact hl j hj
  · exact Nat.le_trans h.bel.size hj.1
/-- A row of versions that can be read. -/
def RowN (w : World) (a : Option Addr) (ys : List Vn) : Prop := ys.length = 0 ∨ ∃ b o, a = some ⟨b, o, none⟩ ∧ b < w.heap.size ∧ ∀ i, i < ys.length → w.cell? ⟨b, o + i * 4, none⟩ = some (.string (vn ys i).k) ∧ w.cell? ⟨b, o + i * 4 + 1, none⟩ = some (.int .i64 (vn ys i).n) ∧ w.cell? ⟨b, o + i * 4 + 2, none⟩ = some (.slice (vn ys i).a (vn ys i).z.length (vn ys i).c) ∧ w.cell? ⟨b, o + i * 4 + 3, none⟩ = some (.bool (vn ys i).d)

set_option maxRecDepth 100000 in
set_option maxHeartbeats 4000000 in
theorem load_any (a : Option Addr) (c : Nat) (ys : List Vn) (w : World) (hr : RowN w a ys) (hl : ys.length ≤ 4000000000000) (hok : ∀ i, i < ys.length → VnOk w (vn ys i)) :
    Calls Try.prog 20 #[.slice a ys.length c] w fun e w' => (((loadA [] ys).2 = 0 ∧ e = .returned (.tuple #[.pointer (some ⟨w.heap.size, 0, none⟩), .int .i64 0]) ∧ Fil w w' w.heap.size (loadA [] ys).1 ∧ FineK (loadA [] ys).1 ys.length) ∨ ((loadA [] ys).2 ≠ 0 ∧ e = .returned (.tuple #[.pointer none, .int .i64 (loadA [] ys).2]))) ∧ Below w.heap.size w w' := by
  have hnew := new_any w
  obtain ⟨V1, hV1⟩ : ∃ W, W = w.alloc (.cells #[.map none] 75) := ⟨_, rfl⟩
  have hF0 : Fil w V1 w.heap.size [] := by
    rw [hV1]
    exact ⟨⟨_, none, [], sto_new w, rfl, fun j hj => Nat.le_of_eq hj.symm⟩, (Below.refl _ _).alloc (Nat.le_refl _) _⟩
  rw [← hV1] at hnew
  obtain ⟨N, hN⟩ : ∃ N, N = ys.length := ⟨_, rfl⟩
  have HF0 := hide_it hF0
  have HR := hide_it hr
  have HOK := hide_it hok
  have HN := hide_it hN
  rw [← hN] at hl ⊢
  clear hF0 hV1 hr hok hN
  go_enter Try.func20, Try.ntmps20
  go_wp2_with fail
  refine hnew.mono ?_
  rintro e w1 ⟨rfl, hw1⟩
  obtain rfl := hw1.symm
  clear hnew hw1
  go_wp2_with fail
  go_loopw [11, 6, 7] (fun i _ _ wr => ∃ (k : Nat) (A : Cont), k ≤ N ∧ i = .int .i64 (k : Int) ∧ Hid (Fil w wr w.heap.size A) ∧ Hid (FineK A k) ∧ Hid (loadA [] ys = loadA A (ys.drop k))) (fun i _ _ _ => N - (intOf i).toNat)
  case atStart => exact ⟨0, [], by omega, rfl, HF0, hide_it FineK.nil, hide_it rfl⟩
  case round =>
    clear HF0
    obtain ⟨k, A, hk, rfl, HD, HF, HL⟩ := hrel
    by_cases hlt : k < N
    · have hki : (k : Int) < (N : Int) := by omega
      have hw1 : IntKind.i64.wrap ((k : Int) + 1) = (k : Int) + 1 := i64_in (by omega) (by omega)
      have hky : k < ys.length := by rw [← HN.out]; exact hlt
      obtain ⟨b2, o2, rfl, l2, hc⟩ : ∃ b o, a = some ⟨b, o, none⟩ ∧ b < w.heap.size ∧ ∀ i, i < ys.length → _ := by
        rcases HR.out with h0 | h0
        · omega
        · exact h0
      obtain ⟨c0, c1, c2, c3⟩ := hc k hky
      have d0 := (HD.out.bel.cell (p := ⟨b2, o2 + k * 4, none⟩) l2).trans c0
      have d1 := (HD.out.bel.cell (p := ⟨b2, o2 + k * 4 + 1, none⟩) l2).trans c1
      have d2 := (HD.out.bel.cell (p := ⟨b2, o2 + k * 4 + 2, none⟩) l2).trans c2
      have d3 := (HD.out.bel.cell (p := ⟨b2, o2 + k * 4 + 3, none⟩) l2).trans c3
      have hx := HOK.out k hky
      have hdr : ys.drop k = vn ys k :: ys.drop (k + 1) := by rw [List.drop_eq_getElem_cons hky, vn_get hky]
      have hld : loadA [] ys = if applyE A (vn ys k) = 0 then loadA (applyA A (vn ys k)) (ys.drop (k + 1)) else (A, applyE A (vn ys k)) := by rw [HL.out, hdr]; rfl
      generalize vn ys k = y at *
      have HN2 := hide_it (applyA_fine HF.out HD.out.nodup y)
      have hfin := HF.out.fine (show k ≤ 4000000000000 by omega)
      obtain ⟨W, hW⟩ : ∃ W, W = wr.alloc (.cells #[.string y.k, .int .i64 y.n, .slice y.a y.z.length y.c, .bool y.d] 30) := ⟨_, rfl⟩
      have hbW : Below wr.heap.size wr W := by rw [hW]; exact (Below.refl _ _).alloc (Nat.le_refl _) _
      have hap := (HD.out.below hbW).appV hfin y hx
      unfold verV at hap
      by_cases h0 : applyE A y = 0
      · rw [if_pos h0] at hld
        rw [h0] at hap
        have HLD := hide_it hld
        clear c0 c1 c2 c3 hc hx hbW HD HF HL hfin hdr hld h0
        go_wp2_with fail
        rw [← hW]
        clear hW d0 d1 d2 d3
        refine hap.mono ?_
        rintro e z1 ⟨rfl, hD⟩
        have HY := hide_it hD
        clear hap hD
        go_wp2
        go_roundw
        case rel => exact ⟨k + 1, _, by omega, by go_num, HY, HN2, HLD⟩
        case measure => simp [intOf]; omega
      · rw [if_neg h0] at hld
        have HLD := hide_it hld
        have hq : (applyE A y == 0) = false := by simpa using h0
        have H0 := hide_it h0
        generalize applyE A y = E at *
        clear c0 c1 c2 c3 hc hx hbW HD HF HL hfin hdr hld h0
        go_wp2_with fail
        rw [← hW]
        clear hW d0 d1 d2 d3
        refine hap.mono ?_
        rintro e z1 ⟨rfl, hD⟩
        have HY := hide_it hD.bel
        clear hap hD
        go_wp2
        refine bodyPost_ret (v := .tuple #[.pointer none, .int .i64 E]) (by simp [results, Try.results20, go_sem]) rfl ⟨.inr ?_, HY.out⟩
        rw [HLD.out]; exact ⟨H0.out, rfl⟩
    · have hn1 : ¬ (k : Int) < (N : Int) := by omega
      have hkn : k = ys.length := by have := HN.out; omega
      have hld : loadA [] ys = (A, 0) := by rw [HL.out, hkn, List.drop_length]; rfl
      have HLD := hide_it hld
      have hF2 := HF.out.mono hk
      have HF2 := hide_it hF2
      clear hkn hld hF2 HL HF
      go_wp2
      refine bodyPost_ret (v := .tuple #[.pointer (some ⟨w.heap.size, 0, none⟩), .int .i64 0]) (by simp [results, Try.results20, go_sem]) rfl ⟨.inl ?_, HD.out.bel⟩
      rw [HLD.out]; exact ⟨rfl, rfl, HD.out, HF2.out⟩

end Go.Proofs.Ythaknohnccmfoaa

namespace Go.Proofs.Ythaknohnccmfoaa
open Go.RowKit Go.Maps
open Go.WideAt (bytes_irrefl)
open Go.WideShapes (bytes_trans)

/-- A version that a store takes, but for its place. -/
def checkT (k : List UInt8) (l : Ver) : Prop := ¬ (k.length < 1 ∨ 255 < k.length) ∧ ¬ (4096 < l.b.length ∨ (l.d = true ∧ 0 < l.b.length)) ∧ ¬ (l.n < 0 ∨ 4611686018427387904 < l.n)
theorem check_iff (x : Vn) : checkE x = 0 ↔ checkT x.k.data.toList (verOf x) := by
  have hs : x.k.data.toList.length = x.k.size := by rw [Array.length_toList]; rfl
  unfold checkE checkT
  rw [hs]
  show _ ↔ ¬ (x.k.size < 1 ∨ 255 < x.k.size) ∧ ¬ (4096 < x.z.length ∨ (x.d = true ∧ 0 < x.z.length)) ∧ ¬ (x.n < 0 ∨ 4611686018427387904 < x.n)
  by_cases h1 : x.k.size < 1 ∨ 255 < x.k.size
  · rw [if_pos h1]; exact ⟨fun h => (by cases h), fun h => absurd h1 h.1⟩
  · rw [if_neg h1]
    by_cases h2 : 4096 < x.z.length ∨ (x.d = true ∧ 0 < x.z.length)
    · rw [if_pos h2]; exact ⟨fun h => (by cases h), fun h => absurd h2 h.2.1⟩
    · rw [if_neg h2]
      by_cases h3 : x.n < 0 ∨ 4611686018427387904 < x.n
      · rw [if_pos h3]; exact ⟨fun h => (by cases h), fun h => absurd h3 h.2.2⟩
      · rw [if_neg h3]; exact ⟨fun _ => ⟨h1, h2, h3⟩, fun _ => rfl⟩
/-- What is known of every key of a store that was filled. -/
structure GoodA (A : Cont) : Prop where
  ne : ∀ e ∈ A, e.2 ≠ []
  st : ∀ e ∈ A, e.2.Pairwise fun l m => l.n < m.n
  ok : ∀ e ∈ A, ∀ l ∈ e.2, checkT e.1 l
theorem GoodA.nil : GoodA [] := ⟨(fun e h => by cases h), (fun e h => by cases h), (fun e h => by cases h)⟩
theorem last_most {ls : List Ver} (h : ls.Pairwise fun l m => l.n < m.n) : ∀ a ∈ ls, a.n ≤ (vr ls (ls.length - 1)).n := fun a ha => by
  obtain ⟨i, hi, rfl⟩ := List.mem_iff_getElem.1 ha
  rw [← vr_get (show ls.length - 1 < ls.length by omega)]
  by_cases h1 : i = ls.length - 1
  · subst h1; exact Int.le_refl _
  · exact Int.le_of_lt (List.pairwise_iff_getElem.1 h i (ls.length - 1) hi (by omega) (by omega))
theorem snoc_rise {ls : List Ver} {l : Ver} (h : ls.Pairwise fun l m => l.n < m.n) (hl : ¬ lowV ls l.n) : (ls ++ [l]).Pairwise fun l m => l.n < m.n := by
  refine List.pairwise_append.2 ⟨h, List.pairwise_singleton _ _, fun a ha b hb => ?_⟩
  obtain rfl := List.mem_singleton.1 hb
  have h1 := last_most h a ha
  have h2 : 0 < ls.length := List.length_pos_of_mem ha
  unfold lowV at hl
  have : ¬ b.n ≤ (vr ls (ls.length - 1)).n := fun h3 => hl ⟨h2, h3⟩
  omega
theorem mem_setA {B : Cont} {k : List UInt8} {ls : List Ver} {e : List UInt8 × List Ver} (h : e ∈ setA B k ls) : e = (k, ls) ∨ (e ∈ B ∧ e.1 ≠ k) := by
  unfold setA at h
  obtain ⟨f, hf, h2⟩ := List.mem_map.1 h
  by_cases h3 : (f.1 == k) = true
  · rw [if_pos h3] at h2
    have : f.1 = k := by simpa using h3
    exact .inl (by rw [← h2, this])
  · rw [if_neg h3] at h2
    subst h2
    exact .inr ⟨hf, by simpa using h3⟩
theorem good_apply {A : Cont} (h : GoodA A) (x : Vn) : GoodA (applyA A x) := by
  unfold applyA
  split
  · rename_i h0
    have hc : checkE x = 0 ∧ ¬ lowV (lsOf A x.k.data.toList) x.n := by
      unfold applyE at h0
      split at h0
      · rename_i h1; exact absurd h0 h1
      · rename_i h1
        split at h0
        · cases h0
        · rename_i h2; exact ⟨by simpa using h1, h2⟩
    have hm : ∀ e ∈ addA A x.k.data.toList (verOf x), e = (x.k.data.toList, lsOf A x.k.data.toList ++ [verOf x]) ∨ e ∈ A := fun e he => by
      unfold addA at he
      rcases mem_setA he with h1 | ⟨h1, h2⟩
      · exact .inl h1
      · right
        split at h1
        · exact h1
        · rcases mem_insA h1 with h3 | h3
          · rw [h3] at h2; exact absurd rfl h2
          · exact h3
    refine ⟨fun e he => ?_, fun e he => ?_, fun e he l hl => ?_⟩
    · rcases hm e he with rfl | h1
      · simp
      · exact h.ne e h1
    · rcases hm e he with rfl | h1
      · refine snoc_rise ?_ hc.2
        rcases lsOf_in (A := A) (k := x.k.data.toList) with h2 | ⟨f, hf, _, h2⟩
        · rw [h2]; exact List.Pairwise.nil
        · rw [← h2]; exact h.st f hf
      · exact h.st e h1
    · rcases hm e he with rfl | h1
      · rcases List.mem_append.1 hl with h2 | h2
        · rcases lsOf_in (A := A) (k := x.k.data.toList) with h3 | ⟨f, hf, h4, h3⟩
          · rw [h3] at h2; cases h2
          · rw [← h3] at h2
            have := h.ok f hf l h2
            rwa [h4] at this
        · obtain rfl := List.mem_singleton.1 h2
          exact (check_iff x).1 hc.1
      · exact h.ok e h1 l hl
  · exact h
theorem loadA_cons (A : Cont) (y : Vn) (r : List Vn) : loadA A (y :: r) = if applyE A y = 0 then loadA (applyA A y) r else (A, applyE A y) := rfl
theorem loadA_append (A : Cont) (xs ys : List Vn) : loadA A (xs ++ ys) = if (loadA A xs).2 = 0 then loadA (loadA A xs).1 ys else loadA A xs := by
  induction xs generalizing A with
  | nil => simp [loadA]
  | cons x r ih =>
    rw [List.cons_append, loadA_cons, loadA_cons]
    by_cases h : applyE A x = 0
    · rw [if_pos h, if_pos h]; exact ih _
    · rw [if_neg h, if_neg h, if_neg h]
theorem setA_snoc {A : Cont} {k : List UInt8} {x ls : List Ver} (h : ∀ f ∈ A, f.1 ≠ k) : setA (A ++ [(k, x)]) k ls = A ++ [(k, ls)] := by
  unfold setA
  rw [List.map_append]
  congr 1
  · have h1 : ∀ f ∈ A, (if (f.1 == k) = true then (f.1, ls) else f) = f := fun f hf => if_neg (by simpa using h f hf)
    rw [List.map_congr_left h1]; simp
  · simp
theorem lsOf_snoc {A : Cont} {k : List UInt8} {x : List Ver} (h : ∀ f ∈ A, f.1 ≠ k) : lsOf (A ++ [(k, x)]) k = x := by
  unfold lsOf
  have h1 : A.find? (fun e => e.1 == k) = none := List.find?_eq_none.2 fun e he h2 => h e he (by simpa using h2)
  rw [List.find?_append, h1]
  simp
theorem insA_snoc {A : Cont} {k : List UInt8} (h : ∀ f ∈ A, bytesBefore f.1 k = true) : insA k A = A ++ [(k, [])] := by
  induction A with
  | nil => rfl
  | cons f r ih =>
    unfold insA
    have h1 := h f (List.mem_cons_self ..)
    have h2 : ¬ bytesBefore k f.1 = true := fun h3 => by
      have := bytes_trans _ _ _ h1 h3
      rw [bytes_irrefl] at this; cases this
    rw [if_neg h2, ih fun g hg => h g (List.mem_cons_of_mem _ hg)]; rfl
/-- One key's versions, loaded behind what lies before. -/
theorem load_key {A : Cont} {k : List UInt8} (h : ∀ f ∈ A, bytesBefore f.1 k = true) : ∀ (ls2 ls1 : List Ver) (ys : List Vn), saysV ys = ls2.map (fun l => (k, l)) → (ls1 ++ ls2).Pairwise (fun l m => l.n < m.n) → (∀ l ∈ ls2, checkT k l) →
    loadA (if ls1 = [] then A else A ++ [(k, ls1)]) ys = (if ls1 ++ ls2 = [] then A else A ++ [(k, ls1 ++ ls2)], 0)
  | [], ls1, ys, hs, _, _ => by
    have : ys = [] := by
      cases ys with
      | nil => rfl
      | cons y r => cases hs
    subst this
    rw [List.append_nil]; rfl
  | l :: t, ls1, ys, hs, hp, hc => by
    have hne : ∀ f ∈ A, f.1 ≠ k := fun f hf e => by
      have := h f hf
      rw [e, bytes_irrefl] at this; cases this
    cases ys with
    | nil => cases hs
    | cons y r =>
      unfold saysV at hs
      rw [List.map_cons, List.map_cons, List.cons.injEq, Prod.mk.injEq] at hs
      obtain ⟨⟨hk, hv⟩, hr⟩ := hs
      have hls : lsOf (if ls1 = [] then A else A ++ [(k, ls1)]) k = ls1 := by
        split
        · rename_i h1
          rw [h1]
          refine lsOf_has ?_
          unfold hasK
          rw [List.any_eq_false]
          exact fun e he h2 => hne e he (by simpa using h2)
        · exact lsOf_snoc hne
      have he : applyE (if ls1 = [] then A else A ++ [(k, ls1)]) y = 0 := by
        unfold applyE
        have h1 : checkE y = 0 := (check_iff y).2 (by rw [hk, hv]; exact hc l (List.mem_cons_self ..))
        rw [if_neg (by rw [h1]; simp), hk, hls]
        refine if_neg fun hlow => ?_
        have h2 := (List.pairwise_append.1 hp).2.2 (vr ls1 (ls1.length - 1)) (vr_mem (by have := hlow.1; omega)) l (List.mem_cons_self ..)
        have h3 : y.n = l.n := congrArg Ver.n hv
        have := hlow.2
        omega
      have ha : applyA (if ls1 = [] then A else A ++ [(k, ls1)]) y = if ls1 ++ [l] = [] then A else A ++ [(k, ls1 ++ [l])] := by
        unfold applyA addA
        rw [if_pos he, hk, hv, hls, if_neg (show ¬ ls1 ++ [l] = [] by simp)]
        by_cases h1 : ls1 = []
        · have h2 : hasK A k = false := by
            unfold hasK
            rw [List.any_eq_false]
            exact fun e he h2 => hne e he (by simpa using h2)
          rw [if_pos h1, h2, if_neg (by simp), insA_snoc h, setA_snoc hne]
        · have h2 : hasK (A ++ [(k, ls1)]) k = true := by
            unfold hasK; rw [List.any_append]; simp
          rw [if_neg h1, h2, if_pos rfl, setA_snoc hne]
      unfold loadA
      rw [if_pos he, ha, load_key h t (ls1 ++ [l]) r hr (by rw [List.append_assoc]; exact hp) fun m hm => hc m (List.mem_cons_of_mem _ hm), List.append_assoc]
      rfl
theorem load_from : ∀ (A2 A1 : Cont) (ys : List Vn), GoodA A2 → (A1 ++ A2).Pairwise (fun e f => bytesBefore e.1 f.1 = true) → saysV ys = versA A2 → loadA A1 ys = (A1 ++ A2, 0)
  | [], A1, ys, _, _, hs => by
    have : ys = [] := by
      cases ys with
      | nil => rfl
      | cons y r => cases hs
    subst this
    rw [List.append_nil]; rfl
  | e :: r, A1, ys, hg, hp, hs => by
    have hs2 : saysV ys = e.2.map (fun l => (e.1, l)) ++ versA r := by rw [hs]; unfold versA; rw [List.flatMap_cons]
    unfold saysV at hs2
    obtain ⟨ys1, ys2, rfl, h1, h2⟩ := List.map_eq_append_iff.1 hs2
    have hk := load_key (A := A1) (k := e.1) (fun f hf => (List.pairwise_append.1 hp).2.2 f hf e (List.mem_cons_self ..)) e.2 [] ys1 h1 (hg.st e (List.mem_cons_self ..)) (hg.ok e (List.mem_cons_self ..))
    rw [if_pos rfl, List.nil_append, if_neg (hg.ne e (List.mem_cons_self ..))] at hk
    rw [loadA_append, hk, if_pos rfl]
    have := load_from r (A1 ++ [e]) ys2 ⟨fun f hf => hg.ne f (List.mem_cons_of_mem _ hf), fun f hf => hg.st f (List.mem_cons_of_mem _ hf), fun f hf => hg.ok f (List.mem_cons_of_mem _ hf)⟩ (by rw [List.append_assoc]; exact hp) h2
    rw [List.append_assoc] at this
    exact this
theorem load_back {A : Cont} {ys : List Vn} (hg : GoodA A) (hp : A.Pairwise fun e f => bytesBefore e.1 f.1 = true) (hs : saysV ys = versA A) : loadA [] ys = (A, 0) := load_from A [] ys hg hp hs
theorem good_fil (A : Nat → Vsn) : ∀ n, GoodA (filA A n)
  | 0 => GoodA.nil
  | n + 1 => good_apply (good_fil A n) _

end Go.Proofs.Ythaknohnccmfoaa

namespace Go.Proofs.Ythaknohnccmfoaa
open Go.RowKit Go.Maps

theorem up_cons (l : Ver) (r : List Ver) (n : Int) : upV (l :: r) n = (if l.n ≤ n then 1 else 0) + upV r n := by
  unfold upV
  rw [List.filter_cons]
  by_cases h : l.n ≤ n
  · rw [if_pos (by simpa using h), if_pos h, List.length_cons]; omega
  · rw [if_neg (by simpa using h), if_neg h]; omega
theorem up_none {r : List Ver} {n : Int} (h : ∀ l ∈ r, n < l.n) : upV r n = 0 := by
  induction r with
  | nil => rfl
  | cons l r ih => rw [up_cons, if_neg (by have := h l (by simp); omega), ih fun m hm => h m (by simp [hm])]
theorem up_mono {ls : List Ver} {n m : Int} (h : n ≤ m) : upV ls n ≤ upV ls m := by
  induction ls with
  | nil => exact Nat.le_refl _
  | cons l r ih =>
    rw [up_cons, up_cons]
    by_cases h1 : l.n ≤ n
    · rw [if_pos h1, if_pos (by omega)]; omega
    · rw [if_neg h1]; split <;> omega
theorem up_drop {ls : List Ver} (hs : ls.Pairwise fun l m => l.n < m.n) {n : Int} : ∀ {g : Nat}, g ≤ upV ls n → upV (ls.drop g) n = upV ls n - g := by
  induction ls with
  | nil => intro g _; simp [upV]
  | cons l r ih =>
    intro g hg
    cases g with
    | zero => simp
    | succ g =>
      have hs' := List.pairwise_cons.1 hs
      rw [up_cons] at hg ⊢
      by_cases h1 : l.n ≤ n
      · rw [if_pos h1] at hg ⊢
        rw [List.drop_succ_cons, ih hs'.2 (by omega)]; omega
      · rw [if_neg h1, up_none fun m hm => by have := hs'.1 m hm; omega] at hg
        omega
theorem up_append (ls ms : List Ver) (n : Int) : upV (ls ++ ms) n = upV ls n + upV ms n := by
  unfold upV; rw [List.filter_append, List.length_append]
theorem lsOf_rise {A : Cont} (h : GoodA A) (k : List UInt8) : (lsOf A k).Pairwise fun l m => l.n < m.n := by
  unfold lsOf
  cases hf : A.find? (fun e => e.1 == k) with
  | none => exact List.Pairwise.nil
  | some e => exact h.st e (List.mem_of_find?_eq_some hf)
theorem keys_setA (A : Cont) (k : List UInt8) (ls : List Ver) : (setA A k ls).map (·.1) = A.map (·.1) := by
  unfold setA
  rw [List.map_map]
  refine List.map_congr_left fun e _ => ?_
  simp only [Function.comp]
  split <;> rfl
theorem keys_insA (k : List UInt8) : ∀ {A B : Cont}, A.map (·.1) = B.map (·.1) → (insA k A).map (·.1) = (insA k B).map (·.1)
  | [], [], _ => rfl
  | [], _ :: _, h => by simp at h
  | _ :: _, [], h => by simp at h
  | a :: r, b :: s, h => by
    rw [List.map_cons, List.map_cons, List.cons.injEq] at h
    have ih := keys_insA k (A := r) (B := s) h.2
    unfold insA
    rw [h.1]
    split
    · simp [h.1, h.2]
    · simp [h.1, ih]
theorem hasK_keys (A : Cont) (k : List UInt8) : hasK A k = (A.map (·.1)).any (· == k) := by
  unfold hasK; rw [List.any_map]; rfl
theorem at_nodup {A : Cont} (hd : (A.map (·.1)).Nodup) {e : List UInt8 × List Ver} (he : e ∈ A) (n : Int) : atA A e.1 n = if upV e.2 n = 0 then none else some (vr e.2 (upV e.2 n - 1)) := by
  unfold atA; rw [of_nodup hd e he]
theorem scan_keys {A : Cont} (hd : (A.map (·.1)).Nodup) (f t : List UInt8) (n : Int) : scanA A f t n = (A.map (·.1)).filterMap fun k => if inK f t k = true then (live (atA A k n)).map fun z => (k, z) else none := by
  have e1 : ∀ B : Cont, (∀ e ∈ B, e ∈ A) → scanA B f t n = (B.map (·.1)).filterMap fun k => if inK f t k = true then (live (atA A k n)).map fun z => (k, z) else none := fun B => by
    unfold scanA
    induction B with
    | nil => intro _; rfl
    | cons e r ih =>
      intro hB
      have hi := ih fun x hx => hB x (by simp [hx])
      rw [List.filter_cons, List.map_cons, List.filterMap_cons]
      by_cases h : inK f t e.1 = true
      · rw [if_pos h, if_pos h, List.filterMap_cons, hi, at_nodup hd (hB e (by simp))]
      · rw [if_neg h, if_neg h]; exact hi
  exact e1 A fun e he => he
theorem live_keys {A : Cont} (hd : (A.map (·.1)).Nodup) : liveA A = ((A.map (·.1)).map fun k => liveK k (lsOf A k)).sum := by
  unfold liveA
  rw [List.map_map]
  congr 1
  refine List.map_congr_left fun e he => ?_
  simp only [Function.comp]
  rw [of_nodup hd e he]
theorem low_last (A : Cont) (k : List UInt8) (n : Int) : lowV (lsOf A k) n ↔ ∃ l, lastA A k = some l ∧ n ≤ l.n := by
  unfold lowV lastA
  by_cases h : (lsOf A k).length = 0
  · rw [if_pos h]
    exact ⟨fun h1 => by omega, fun ⟨l, h1, _⟩ => by cases h1⟩
  · rw [if_neg h]
    exact ⟨fun h1 => ⟨_, rfl, h1.2⟩, fun ⟨l, h1, h2⟩ => by cases h1; exact ⟨by omega, h2⟩⟩

/-- A is B, but for versions that go where the horizon is h. -/
structure VR (h : Int) (A B : Cont) : Prop where
  keys : A.map (·.1) = B.map (·.1)
  ls : ∀ k, ∃ g, lsOf A k = (lsOf B k).drop g ∧ (g = 0 ∨ g + 1 ≤ upV (lsOf B k) h)
  good : GoodA B
section
variable {h : Int} {A B : Cont}
theorem VR.last (v : VR h A B) (k : List UInt8) : lastA A k = lastA B k := by
  obtain ⟨g, e, hg⟩ := v.ls k
  have hu := upV_le (lsOf B k) h
  unfold lastA
  rw [e]
  rcases hg with rfl | hg
  · rfl
  · rw [List.length_drop, if_neg (by omega), if_neg (by omega), vr_drop, show g + ((lsOf B k).length - g - 1) = (lsOf B k).length - 1 by omega]
theorem VR.at_ (v : VR h A B) (k : List UInt8) {n : Int} (hn : h ≤ n) : atA A k n = atA B k n := by
  obtain ⟨g, e, hg⟩ := v.ls k
  unfold atA
  rw [e]
  rcases hg with rfl | hg
  · rfl
  · have hm := up_mono (ls := lsOf B k) hn
    rw [up_drop (lsOf_rise v.good k) (show g ≤ upV (lsOf B k) n by omega), if_neg (by omega), if_neg (by omega), vr_drop, show g + (upV (lsOf B k) n - g - 1) = upV (lsOf B k) n - 1 by omega]
theorem VR.get (v : VR h A B) (k : List UInt8) {n : Int} (hn : h ≤ n) : getA A k n = getA B k n := by unfold getA; rw [v.at_ k hn]
theorem VR.newest (v : VR h A B) (k : List UInt8) : newestA A k = newestA B k := by unfold newestA; rw [v.last k]
theorem VR.applyE (v : VR h A B) (x : Vn) : applyE A x = applyE B x := by
  have e : lowV (lsOf A x.k.data.toList) x.n ↔ lowV (lsOf B x.k.data.toList) x.n := by rw [low_last, low_last, v.last]
  unfold Go.Proofs.Ythaknohnccmfoaa.applyE
  by_cases h1 : lowV (lsOf B x.k.data.toList) x.n
  · rw [if_pos h1, if_pos (e.2 h1)]
  · rw [if_neg h1, if_neg fun h2 => h1 (e.1 h2)]
theorem VR.len (v : VR h A B) : A.length = B.length := by
  have := congrArg List.length v.keys
  simpa using this
theorem VR.nodup (v : VR h A B) (hd : (B.map (·.1)).Nodup) : (A.map (·.1)).Nodup := by rw [v.keys]; exact hd
theorem VR.scan (v : VR h A B) (hd : (B.map (·.1)).Nodup) (f t : List UInt8) {n : Int} (hn : h ≤ n) : scanA A f t n = scanA B f t n := by
  rw [scan_keys (v.nodup hd), scan_keys hd, v.keys]
  congr 1
  funext k
  rw [v.at_ k hn]
theorem VR.live (v : VR h A B) (hd : (B.map (·.1)).Nodup) : liveA A = liveA B := by
  rw [live_keys (v.nodup hd), live_keys hd, v.keys]
  congr 1
  refine List.map_congr_left fun k _ => ?_
  have h1 := v.last k
  unfold lastA at h1
  unfold liveK
  rw [h1]
theorem VR.apply (v : VR h A B) (x : Vn) : VR h (applyA A x) (applyA B x) := by
  have hg := good_apply v.good x
  have he := v.applyE x
  by_cases h0 : Go.Proofs.Ythaknohnccmfoaa.applyE B x = 0
  · have e1 : applyA A x = addA A x.k.data.toList (verOf x) := by unfold applyA; rw [if_pos (he.trans h0)]
    have e2 : applyA B x = addA B x.k.data.toList (verOf x) := by unfold applyA; rw [if_pos h0]
    rw [e2] at hg
    rw [e1, e2]
    refine ⟨?_, fun k' => ?_, hg⟩
    · unfold addA
      rw [keys_setA, keys_setA, hasK_keys, hasK_keys, v.keys]
      split
      · exact v.keys
      · exact keys_insA _ v.keys
    · rw [lsOf_addA, lsOf_addA]
      by_cases hk : k' = x.k.data.toList
      · rw [if_pos hk, if_pos hk]
        obtain ⟨g, e, hgg⟩ := v.ls x.k.data.toList
        have hu := upV_le (lsOf B x.k.data.toList) h
        refine ⟨g, ?_, ?_⟩
        · rw [e, List.drop_append_of_le_length (by omega)]
        · rcases hgg with h1 | h1
          · exact .inl h1
          · right; rw [up_append]; omega
      · rw [if_neg hk, if_neg hk]; exact v.ls k'
  · have e1 : applyA A x = A := by unfold applyA; rw [if_neg (by rw [he]; exact h0)]
    have e2 : applyA B x = B := by unfold applyA; rw [if_neg h0]
    rw [e1, e2]; exact v
theorem VR.td (v : VR h A B) (hd : (B.map (·.1)).Nodup) (x : Stv) (hk : x.k = 0 ∨ x.k = 2 ∨ x.k = 5 ∨ (h ≤ x.stamp ∧ (x.k = 1 ∨ x.k = 3))) : tdA A x = tdA B x := by
  unfold tdA
  rcases hk with hk | hk | hk | ⟨hn, hk | hk⟩
  · rw [if_pos hk, if_pos hk, v.applyE]
  · rw [if_neg (by omega), if_neg (by omega), if_pos hk, if_neg (by omega), if_neg (by omega), if_pos hk, v.newest]
  · rw [if_neg (by omega), if_neg (by omega), if_neg (by omega), if_neg (by omega), if_neg (by omega), if_pos hk, if_neg (by omega), if_neg (by omega), if_neg (by omega), if_neg (by omega), if_neg (by omega), if_pos hk, v.live hd]
  · rw [if_neg (by omega), if_pos hk, if_neg (by omega), if_pos hk, v.get _ hn]
  · rw [if_neg (by omega), if_neg (by omega), if_neg (by omega), if_pos hk, if_neg (by omega), if_neg (by omega), if_neg (by omega), if_pos hk, v.scan hd _ _ hn]
theorem VR.next (v : VR h A B) (x : Stv) (hk : x.k ≠ 4) : VR h (nextA A x) (nextA B x) := by
  unfold nextA
  by_cases h0 : x.k = 0
  · rw [if_pos h0, if_pos h0]; exact v.apply _
  · rw [if_neg h0, if_neg hk, if_neg h0, if_neg hk]; exact v
end

theorem lsOf_vac (A : Cont) (n : Int) (k : List UInt8) : lsOf (vacA A n) k = pruV (lsOf A k) n := by
  unfold lsOf vacA
  induction A with
  | nil => rfl
  | cons e r ih =>
    rw [List.map_cons]
    by_cases hk : (e.1 == k) = true
    · rw [List.find?_cons_of_pos (by simpa using hk), List.find?_cons_of_pos (by simpa using hk)]; rfl
    · rw [List.find?_cons_of_neg (by simpa using hk), List.find?_cons_of_neg (by simpa using hk)]; exact ih
theorem vac_vr {A : Cont} (hg : GoodA A) (n : Int) : VR n (vacA A n) A := by
  refine ⟨?_, fun k => ⟨goneV (lsOf A k) n, lsOf_vac A n k, ?_⟩, hg⟩
  · unfold vacA; rw [List.map_map]; rfl
  · unfold goneV; omega
/-- Nothing goes a second time. -/
theorem gone_twice {ls : List Ver} (hs : ls.Pairwise fun l m => l.n < m.n) {n m : Int} (hm : m ≤ n) : goneV (pruV ls n) m = 0 := by
  have h1 := up_mono (ls := pruV ls n) hm
  have h2 : upV (pruV ls n) n = upV ls n - goneV ls n := up_drop hs (by unfold goneV; omega)
  unfold goneV at h2 ⊢
  omega
theorem sum_zero {α : Type} : ∀ l : List α, (l.map fun _ => 0).sum = 0
  | [] => rfl
  | _ :: r => by rw [List.map_cons, List.sum_cons, sum_zero r]
theorem gone_again {A : Cont} (hg : GoodA A) {n m : Int} (hm : m ≤ n) : goneA (vacA A n) m = 0 ∧ vacA (vacA A n) m = vacA A n := by
  have h1 : ∀ e ∈ A, goneV (pruV e.2 n) m = 0 := fun e he => gone_twice (hg.st e he) hm
  unfold goneA vacA
  rw [List.map_map, List.map_map]
  refine ⟨?_, List.map_congr_left fun e he => ?_⟩
  · have h2 : A.map ((fun e : List UInt8 × List Ver => goneV e.2 m) ∘ fun e => (e.1, pruV e.2 n)) = A.map fun _ => 0 := List.map_congr_left fun e he => h1 e he
    rw [h2]
    exact sum_zero A
  · simp only [Function.comp]
    show (e.1, pruV (pruV e.2 n) m) = (e.1, pruV e.2 n)
    have : pruV (pruV e.2 n) m = pruV e.2 n := by
      show (pruV e.2 n).drop (goneV (pruV e.2 n) m) = _
      rw [h1 e he]; rfl
    rw [this]
theorem tot_vac (A : Cont) (n : Int) : tot (vacA A n) + goneA A n = tot A := by
  unfold tot goneA vacA
  rw [List.map_map]
  induction A with
  | nil => rfl
  | cons e r ih =>
    rw [List.map_cons, List.map_cons, List.map_cons, List.sum_cons, List.sum_cons, List.sum_cons]
    have h1 : (pruV e.2 n).length + goneV e.2 n = e.2.length := by
      unfold pruV
      rw [List.length_drop]
      have : goneV e.2 n ≤ e.2.length := by unfold goneV; have := upV_le e.2 n; omega
      omega
    simp only [Function.comp] at ih ⊢
    omega
end Go.Proofs.Ythaknohnccmfoaa

namespace Go.Proofs.Ythaknohnccmfoaa
open Go.RowKit Go.Maps

theorem Duo.vac {w z : World} {s1 s2 : Nat} {A1 A2 : Cont} (h : Duo w z s1 s2 A1 A2) (hf : Fine A1) (n : Int) : Calls Try.prog 23 #[.pointer (some ⟨s1, 0, none⟩), .int .i64 n] z fun e z' => e = .returned (.int .i64 (goneA A1 n : Int)) ∧ Duo w z' s1 s2 (vacA A1 n) A2 := by
  obtain ⟨F, mb, M, hs, rfl, _, hn⟩ := h.one
  refine (vacuum_any hs hf.tot n).mono ?_
  rintro e z' ⟨rfl, ⟨M', g1, g2⟩, g3⟩
  exact ⟨rfl, hn z' _ ⟨⟨mb, M', g1, g2⟩, g3⟩⟩
theorem Duo.len {w z : World} {s1 s2 : Nat} {A1 A2 : Cont} (h : Duo w z s1 s2 A1 A2) (hf : Fine A1) : Calls Try.prog 22 #[.pointer (some ⟨s1, 0, none⟩)] z fun e z' => e = .returned (.tuple #[.int .i64 (A1.length : Int), .int .i64 (tot A1 : Int)]) ∧ Below z.heap.size z z' := by
  obtain ⟨F, mb, M, hs, rfl, _, _⟩ := h.one
  exact len_any hs hf
theorem td_fineV {A : Cont} (h : Fine A) (x : Stv) (hk : x.k = 0 ∨ x.k = 1 ∨ x.k = 2 ∨ x.k = 3 ∨ x.k = 5) : TdFine (tdA A x) := by
  rcases hk with hk | hk | hk | hk | hk
  · exact td_fine h x (.inl hk)
  · exact td_fine h x (.inr (.inl hk))
  · exact td_fine h x (.inr (.inr hk))
  · exact td_fineS h x (.inr hk)
  · have e : tdA A x = ⟨0, liveA A, 0, false, [], [], []⟩ := by
      unfold tdA; rw [if_neg (by omega), if_neg (by omega), if_neg (by omega), if_neg (by omega), if_neg (by omega), if_pos hk]
    rw [e]
    exact ⟨Nat.zero_le _, Nat.zero_le _, (fun y hy => by cases hy), Nat.zero_le _, fun y hy => by cases hy⟩
end Go.Proofs.Ythaknohnccmfoaa

namespace Go.Proofs.Ythaknohnccmfoaa.storeVacuum
open Go.RowKit Go.Maps

set_option maxRecDepth 100000 in
set_option maxHeartbeats 4000000 in
theorem walk (a : Option Addr) (n c : Nat) (A : Nat → Vsn) (h : Int) (_hh : -9223372036854775808 ≤ h ∧ h ≤ 9223372036854775807) (b : Option Addr) (m cb : Nat) (B : Nat → Stv) (w : World) (ha : CameVsn w a n A) (hna : n ≤ 1048576) (hb : CameStv w b m B) (hmb : m ≤ 1048576) :
    Calls Try.prog 6 #[.slice a n c, .int .i64 h, .slice b m cb] w fun e w' => e = .returned (.bool true) ∧ Below w.heap.size w w' := by
  have hrow := hb.row
  have heach := hide_it hb.each
  have hfx := fixed_any w
  have HA := hide_it ha
  clear ha hb
  go_enter Try.func6, Try.ntmps6
  go_wp2_with fail
  refine hfx.mono ?_
  rintro e w1 ⟨rfl, hb1⟩
  have HB1 := hide_it hb1
  have hf1 := filled_any a n c A w1 (HA.out.below hb1)
  clear hfx hb1
  go_wp2_with fail
  refine hf1.mono ?_
  rintro e w2 ⟨rfl, hF1, hK1⟩
  have hf2 := filled_any a n c A w2 (HA.out.below (HB1.out.trans (hF1.bel.mono HB1.out.size)))
  have HF1 := hide_it hF1
  have HK1 := hide_it (hK1.mono hna)
  clear hf1 hF1 hK1
  go_wp2_with fail
  refine hf2.mono ?_
  rintro e w3 ⟨rfl, hF2, _⟩
  have hD := duo_fil HF1.out hF2
  obtain ⟨s1, hs1⟩ : ∃ s, s = w1.heap.size := ⟨_, rfl⟩
  obtain ⟨s2, hs2⟩ : ∃ s, s = w2.heap.size := ⟨_, rfl⟩
  have hgood := good_fil A n
  obtain ⟨C, hC⟩ : ∃ C, C = filA A n := ⟨_, rfl⟩
  rw [← hs1, ← hs2, ← hC] at hD
  rw [← hs1, ← hs2]
  rw [← hC] at HK1 hgood
  clear hf2 hF2 hs1 hs2 hC HF1 HA
  have hfin := HK1.out.fine (by omega)
  have hfin2 := (vacA_fine HK1.out h).fine (by omega)
  have hv0 := vac_vr hgood h
  have htot := tot_vac C h
  have hga := gone_again hgood (n := h) (m := h) (Int.le_refl _)
  have hgm := fun (m : Int) (hm : m ≤ h) => gone_again hgood (n := h) (m := m) hm
  have hlen := hD.len hfin
  have hT0 : tot C ≤ 4000000000000 := hfin.tot
  obtain ⟨V, hV⟩ : ∃ V, V = vacA C h := ⟨_, rfl⟩
  have HD := hide_it hD
  clear hD
  go_wp2_with fail
  refine hlen.mono ?_
  rintro e w4 ⟨rfl, hb4⟩
  have hD4 := HD.out.below hb4
  have hvac := hD4.vac hfin h
  rw [← hV] at hga hgm htot hv0 hfin2 hvac
  clear hlen hb4 HD
  go_wp2_with fail
  refine hvac.mono ?_
  rintro e w5 ⟨rfl, hD5⟩
  have hlen := hD5.len hfin2
  have HD5 := hide_it hD5
  clear hD4 hD5 hvac
  go_wp2_with fail
  refine hlen.mono ?_
  rintro e w6 ⟨rfl, hb6⟩
  have hD6 := HD5.out.below hb6
  have hvac := hD6.vac hfin2 h
  rw [hga.1, hga.2] at hvac
  generalize tot C = T0 at *
  generalize tot V = T1 at *
  generalize goneA C h = G at *
  have hw1 : IntKind.i64.wrap ((T0 : Int) - (T1 : Int)) = (G : Int) := by rw [show (T0 : Int) - (T1 : Int) = (G : Int) by omega]; exact i64_in (by omega) (by omega)
  have hg0 : ¬ (G : Int) < 0 := by omega
  clear hlen hb6 HD5 hD6
  go_wp2_with fail
  refine hvac.mono ?_
  rintro e w7 ⟨rfl, hD7⟩
  clear hvac hw1 hg0
  have hvac := hD7.vac hfin2 (min h (wrap64 (h - 1)))
  rw [(hgm _ (Int.min_le_left _ _)).1, (hgm _ (Int.min_le_left _ _)).2] at hvac
  clear hD7 hgm hga
  go_wp2_with fail
  refine hvac.mono ?_
  rintro e w8 ⟨rfl, hD8⟩
  clear hvac
  have HV := hide_it hv0
  have HF1 := hide_it (HK1.out)
  have HF2 := hide_it (show FineK V 1048576 by rw [hV]; exact vacA_fine HK1.out h)
  have HD := hide_it hD8
  clear hD8 hv0 htot hT0 hfin hfin2 hgood HK1
  generalize (vacA C h).length = L9 at *
  generalize C.length = L8 at *
  go_wp2_with fail
  go_loopw [65, 15, 16, 17, 18, 19] (fun i _ _ _ _ _ wr => ∃ (k : Nat) (V' C' : Cont), k ≤ m ∧ i = .int .i64 (k : Int) ∧ Hid (Duo w1 wr s1 s2 V' C') ∧ Hid (VR h V' C') ∧ Hid (FineK V' (1048576 + k)) ∧ Hid (FineK C' (1048576 + k))) (fun i _ _ _ _ _ _ => m - (intOf i).toNat)
  case atStart => exact ⟨0, V, C, by omega, rfl, HD, HV, HF2, HF1⟩
  case round =>
    clear HD HV HF1 HF2
    clear hV
    clear C V
    obtain ⟨k, V, C, hk, rfl, HD, HV, HF1, HF2⟩ := hrel
    by_cases hlt : k < m
    · have hki : (k : Int) < (m : Int) := by omega
      have hw1 : IntKind.i64.wrap ((k : Int) + 1) = (k : Int) + 1 := i64_in (by omega) (by omega)
      have hbwr := HB1.out.trans (HD.out.bel.mono HB1.out.size)
      obtain ⟨b2, o2, rfl, l2, c0, c1, c2, c3, c4, c5⟩ := hrow.here hlt
      have d0 := (hbwr.cell (p := ⟨b2, o2 + k * 6, none⟩) l2).trans c0
      have d1 := (hbwr.cell (p := ⟨b2, o2 + k * 6 + 1, none⟩) l2).trans c1
      have d2 := (hbwr.cell (p := ⟨b2, o2 + k * 6 + 2, none⟩) l2).trans c2
      have d3 := (hbwr.cell (p := ⟨b2, o2 + k * 6 + 3, none⟩) l2).trans c3
      have d4 := (hbwr.cell (p := ⟨b2, o2 + k * 6 + 4, none⟩) l2).trans c4
      have d5 := (hbwr.cell (p := ⟨b2, o2 + k * 6 + 5, none⟩) l2).trans c5
      have hx := (heach.out k hlt).below HB1.out
      clear hbwr
      generalize B k = x at *
      have HFa := HF1.out.fine (by omega)
      have HFb := HF2.out.fine (by omega)
      have hnd := HD.out.swap.nodup
      have HG1 := hide_it (next_fine HF1.out HD.out.nodup x)
      have HG2 := hide_it (next_fine HF2.out hnd x)
      have HG3 := hide_it (HF1.out.mono (show 1048576 + k ≤ 1048576 + (k + 1) by omega))
      have HG4 := hide_it (HF2.out.mono (show 1048576 + k ≤ 1048576 + (k + 1) by omega))
      obtain ⟨W, hW⟩ : ∃ W, W = wr.alloc (boxX x) := ⟨_, rfl⟩
      have hbW : Below wr.heap.size wr W := by rw [hW]; exact (Below.refl _ _).alloc (Nat.le_refl _) _
      have hzW : W.heap.size = wr.heap.size + 1 := by rw [hW]; simp
      have k0 : W.heap[wr.heap.size]? = some (.cells #[.int .i64 x.k, .string x.key, .int .i64 x.stamp, .slice x.val.a x.val.p.length x.val.c, .bool x.dead, .string x.to] 32 (0, 0)) := by rw [hW]; exact heap_alloc_new wr _
      have hX := HD.out.x hbW (by omega)
      unfold boxX at hW
      have t0 := cell_of_row _ _ 0 _ _ _ k0
      have t2 := cell_of_row _ _ 2 _ _ _ k0
      by_cases hst : h ≤ x.stamp
      · have hd1 : decide (h ≤ x.stamp) = true := decide_eq_true hst
        by_cases hk : x.k = 0
        · skip
          have q6 : (x.k == 6) = false := by rw [hk]; rfl
          have q2 : (x.k == 2) = false := by rw [hk]; rfl
          have q5 : (x.k == 5) = false := by rw [hk]; rfl
          have q0 : (x.k == 0) = true := by rw [hk]; rfl
          have q1 : (x.k == 1) = false := by rw [hk]; rfl
          have q3 : (x.k == 3) = false := by rw [hk]; rfl
          have hkk : x.k = 0 ∨ x.k = 2 ∨ x.k = 5 ∨ (h ≤ x.stamp ∧ (x.k = 1 ∨ x.k = 3)) := by omega
          have hcl := (hX.below ((Below.refl _ _).drew)).bothS HFa HFb x hx
          rw [HV.out.td hnd x hkk] at hcl
          have HV2 := hide_it (HV.out.next x (by omega))
          have htf := td_fineV HFb x (by omega)
          have hal := fun z v1 v2 (a1 : TdIs z v1 (tdA C x)) (a2 : TdIs z v2 (tdA C x)) => alike_same a1 a2 htf
          unfold stepV at hcl
          have hl0 : wr.heap.size < W.heap.size := by omega
          clear c0 c1 c2 c3 c4 c5 hrow hx hbW heach hX HD HFa HFb hnd HF1 HF2 htf hkk hk HV HG3 HG4
          generalize nextA V x = V2 at *
          generalize nextA C x = C2 at *
          go_wp2_with fail
          try rw [← hW]
          clear hW d0 d1 d2 d3 d4 d5
          refine wp_region_held_drew (S := (fun w' => w'.heap[wr.heap.size]? = W.heap[wr.heap.size]?)) (by kernel_rfl) ?_ (fun hHeld => ?_)
          · rfl
          refine take_on (i := 0) (v := ?_) rfl rfl (by kernel_rfl) (by kernel_rfl) (by kernel_rfl) (fun _ _ _ h => h) rfl ?_ hHeld ?_
          rotate_left
          · (intro wq hSq; have xk := hSq.trans k0; have t0 := cell_of_row _ _ 0 _ _ _ xk; have t1 := cell_of_row _ _ 1 _ _ _ xk; have t2 := cell_of_row _ _ 2 _ _ _ xk; have t3 := cell_of_row _ _ 3 _ _ _ xk; have t4 := cell_of_row _ _ 4 _ _ _ xk; have t5 := cell_of_row _ _ 5 _ _ _ xk; go_simp <;> first | with_reducible rfl | rfl)
          simp only [Act.put, List.setIfInBounds_toArray, List.set_cons_zero, List.set_cons_succ]
          refine take_on (i := 1) (v := ?_) rfl rfl (by kernel_rfl) (by kernel_rfl) (by kernel_rfl) (fun _ _ _ h => h) rfl ?_ hHeld ?_
          rotate_left
          · (intro wq hSq; have xk := hSq.trans k0; have t0 := cell_of_row _ _ 0 _ _ _ xk; have t1 := cell_of_row _ _ 1 _ _ _ xk; have t2 := cell_of_row _ _ 2 _ _ _ xk; have t3 := cell_of_row _ _ 3 _ _ _ xk; have t4 := cell_of_row _ _ 4 _ _ _ xk; have t5 := cell_of_row _ _ 5 _ _ _ xk; go_simp <;> first | with_reducible rfl | rfl)
          simp only [Act.put, List.setIfInBounds_toArray, List.set_cons_zero, List.set_cons_succ]
          refine take_on (i := 3) (v := ?_) rfl rfl (by kernel_rfl) (by kernel_rfl) (by kernel_rfl) (fun _ _ _ h => h) rfl ?_ hHeld ?_
          rotate_left
          · (intro wq hSq; have xk := hSq.trans k0; have t0 := cell_of_row _ _ 0 _ _ _ xk; have t1 := cell_of_row _ _ 1 _ _ _ xk; have t2 := cell_of_row _ _ 2 _ _ _ xk; have t3 := cell_of_row _ _ 3 _ _ _ xk; have t4 := cell_of_row _ _ 4 _ _ _ xk; have t5 := cell_of_row _ _ 5 _ _ _ xk; go_simp <;> first | with_reducible rfl | rfl)
          simp only [Act.put, List.setIfInBounds_toArray, List.set_cons_zero, List.set_cons_succ]
          refine take_on (i := 4) (v := ?_) rfl rfl (by kernel_rfl) (by kernel_rfl) (by kernel_rfl) (fun _ _ _ h => h) rfl ?_ hHeld ?_
          rotate_left
          · (intro wq hSq; have xk := hSq.trans k0; have t0 := cell_of_row _ _ 0 _ _ _ xk; have t1 := cell_of_row _ _ 1 _ _ _ xk; have t2 := cell_of_row _ _ 2 _ _ _ xk; have t3 := cell_of_row _ _ 3 _ _ _ xk; have t4 := cell_of_row _ _ 4 _ _ _ xk; have t5 := cell_of_row _ _ 5 _ _ _ xk; go_simp <;> first | with_reducible rfl | rfl)
          simp only [Act.put, List.setIfInBounds_toArray, List.set_cons_zero, List.set_cons_succ]
          refine take_one (i := 2) rfl (by kernel_rfl) (fun K hK => ?_)
          go_simp
          (refine hcl.mono ?_; rintro e z1 ⟨v1, rfl, hy1, hb1, hcl2⟩; clear hcl)
          try go_wp2_with fail
          refine hK.out _ _ ?_ (fun hHeld => ?_)
          · exact hy1
          clear hK K
          try simp only [Act.put, List.setIfInBounds_toArray, List.set_cons_zero, List.set_cons_succ]
          refine take_one (i := 5) rfl (by kernel_rfl) (fun K hK => ?_)
          go_simp
          (refine hcl2.mono ?_; rintro e z2 ⟨v2, rfl, hv1, hv2, hX2, hy2⟩; replace hal := hal z2 v1 v2 hv1 hv2; have hy3 := hX2.bel; clear hv1 hv2 hcl2)
          try go_wp2_with fail
          refine hK.out _ _ ?_ (fun hHeld => ?_)
          · exact hy2
          clear hK K
          try simp only [Act.put, List.setIfInBounds_toArray, List.set_cons_zero, List.set_cons_succ]
          refine take_one (i := 6) rfl (by kernel_rfl) (fun K hK => ?_)
          go_simp
          (refine hal.mono ?_; rintro e z3 ⟨rfl, hz3⟩; have hX3 := hX2.below hz3; clear hal)
          try go_wp2_with fail
          refine hK.out _ _ ?_ (fun hHeld => ?_)
          · exact (hz3.block _ hX2.lt).trans hy2
          clear hK K
          try simp only [Act.put, List.setIfInBounds_toArray, List.set_cons_zero, List.set_cons_succ]
          refine take_on (i := 7) (v := ?_) rfl rfl (by kernel_rfl) (by kernel_rfl) (by kernel_rfl) (fun _ _ _ h => h) rfl ?_ hHeld ?_
          rotate_left
          · (intro wq hSq; have xk := hSq.trans k0; have t0 := cell_of_row _ _ 0 _ _ _ xk; have t1 := cell_of_row _ _ 1 _ _ _ xk; have t2 := cell_of_row _ _ 2 _ _ _ xk; have t3 := cell_of_row _ _ 3 _ _ _ xk; have t4 := cell_of_row _ _ 4 _ _ _ xk; have t5 := cell_of_row _ _ 5 _ _ _ xk; go_simp <;> first | with_reducible rfl | rfl)
          simp only [Act.put, List.setIfInBounds_toArray, List.set_cons_zero, List.set_cons_succ]
          refine wpAnyH_done (by kernel_rfl) ?_ _
          have HY := hide_it hX3.duo
          clear hX2 hX3 hz3 hy1 hy2 hy3
          go_wp2
          go_roundw
          case rel => exact ⟨k + 1, V2, C2, by omega, by go_num, HY, HV2, HG1, HG2⟩
          case measure => simp [intOf]; omega
        · skip
          have q0 : (x.k == 0) = false := by simpa using hk
          have nk0 := hk
          clear hk
          by_cases hk : x.k = 2
          · skip
            have q6 : (x.k == 6) = false := by rw [hk]; rfl
            have q2 : (x.k == 2) = true := by rw [hk]; rfl
            have q5 : (x.k == 5) = false := by rw [hk]; rfl
            have q0 : (x.k == 0) = false := by rw [hk]; rfl
            have q1 : (x.k == 1) = false := by rw [hk]; rfl
            have q3 : (x.k == 3) = false := by rw [hk]; rfl
            have hkk : x.k = 0 ∨ x.k = 2 ∨ x.k = 5 ∨ (h ≤ x.stamp ∧ (x.k = 1 ∨ x.k = 3)) := by omega
            have hcl := (hX.below ((Below.refl _ _).drew)).bothS HFa HFb x hx
            rw [HV.out.td hnd x hkk] at hcl
            have HV2 := hide_it (HV.out.next x (by omega))
            have htf := td_fineV HFb x (by omega)
            have hal := fun z v1 v2 (a1 : TdIs z v1 (tdA C x)) (a2 : TdIs z v2 (tdA C x)) => alike_same a1 a2 htf
            unfold stepV at hcl
            have hl0 : wr.heap.size < W.heap.size := by omega
            clear c0 c1 c2 c3 c4 c5 hrow hx hbW heach hX HD HFa HFb hnd HF1 HF2 htf hkk hk HV HG3 HG4
            generalize nextA V x = V2 at *
            generalize nextA C x = C2 at *
            go_wp2_with fail
            try rw [← hW]
            clear hW d0 d1 d2 d3 d4 d5
            refine wp_region_held_drew (S := (fun w' => w'.heap[wr.heap.size]? = W.heap[wr.heap.size]?)) (by kernel_rfl) ?_ (fun hHeld => ?_)
            · rfl
            refine take_on (i := 0) (v := ?_) rfl rfl (by kernel_rfl) (by kernel_rfl) (by kernel_rfl) (fun _ _ _ h => h) rfl ?_ hHeld ?_
            rotate_left
            · (intro wq hSq; have xk := hSq.trans k0; have t0 := cell_of_row _ _ 0 _ _ _ xk; have t1 := cell_of_row _ _ 1 _ _ _ xk; have t2 := cell_of_row _ _ 2 _ _ _ xk; have t3 := cell_of_row _ _ 3 _ _ _ xk; have t4 := cell_of_row _ _ 4 _ _ _ xk; have t5 := cell_of_row _ _ 5 _ _ _ xk; go_simp <;> first | with_reducible rfl | rfl)
            simp only [Act.put, List.setIfInBounds_toArray, List.set_cons_zero, List.set_cons_succ]
            refine take_on (i := 1) (v := ?_) rfl rfl (by kernel_rfl) (by kernel_rfl) (by kernel_rfl) (fun _ _ _ h => h) rfl ?_ hHeld ?_
            rotate_left
            · (intro wq hSq; have xk := hSq.trans k0; have t0 := cell_of_row _ _ 0 _ _ _ xk; have t1 := cell_of_row _ _ 1 _ _ _ xk; have t2 := cell_of_row _ _ 2 _ _ _ xk; have t3 := cell_of_row _ _ 3 _ _ _ xk; have t4 := cell_of_row _ _ 4 _ _ _ xk; have t5 := cell_of_row _ _ 5 _ _ _ xk; go_simp <;> first | with_reducible rfl | rfl)
            simp only [Act.put, List.setIfInBounds_toArray, List.set_cons_zero, List.set_cons_succ]
            refine take_on (i := 3) (v := ?_) rfl rfl (by kernel_rfl) (by kernel_rfl) (by kernel_rfl) (fun _ _ _ h => h) rfl ?_ hHeld ?_
            rotate_left
            · (intro wq hSq; have xk := hSq.trans k0; have t0 := cell_of_row _ _ 0 _ _ _ xk; have t1 := cell_of_row _ _ 1 _ _ _ xk; have t2 := cell_of_row _ _ 2 _ _ _ xk; have t3 := cell_of_row _ _ 3 _ _ _ xk; have t4 := cell_of_row _ _ 4 _ _ _ xk; have t5 := cell_of_row _ _ 5 _ _ _ xk; go_simp <;> first | with_reducible rfl | rfl)
            simp only [Act.put, List.setIfInBounds_toArray, List.set_cons_zero, List.set_cons_succ]
            refine take_on (i := 4) (v := ?_) rfl rfl (by kernel_rfl) (by kernel_rfl) (by kernel_rfl) (fun _ _ _ h => h) rfl ?_ hHeld ?_
            rotate_left
            · (intro wq hSq; have xk := hSq.trans k0; have t0 := cell_of_row _ _ 0 _ _ _ xk; have t1 := cell_of_row _ _ 1 _ _ _ xk; have t2 := cell_of_row _ _ 2 _ _ _ xk; have t3 := cell_of_row _ _ 3 _ _ _ xk; have t4 := cell_of_row _ _ 4 _ _ _ xk; have t5 := cell_of_row _ _ 5 _ _ _ xk; go_simp <;> first | with_reducible rfl | rfl)
            simp only [Act.put, List.setIfInBounds_toArray, List.set_cons_zero, List.set_cons_succ]
            refine take_one (i := 2) rfl (by kernel_rfl) (fun K hK => ?_)
            go_simp
            (refine hcl.mono ?_; rintro e z1 ⟨v1, rfl, hy1, hb1, hcl2⟩; clear hcl)
            try go_wp2_with fail
            refine hK.out _ _ ?_ (fun hHeld => ?_)
            · exact hy1
            clear hK K
            try simp only [Act.put, List.setIfInBounds_toArray, List.set_cons_zero, List.set_cons_succ]
            refine take_one (i := 5) rfl (by kernel_rfl) (fun K hK => ?_)
            go_simp
            (refine hcl2.mono ?_; rintro e z2 ⟨v2, rfl, hv1, hv2, hX2, hy2⟩; replace hal := hal z2 v1 v2 hv1 hv2; have hy3 := hX2.bel; clear hv1 hv2 hcl2)
            try go_wp2_with fail
            refine hK.out _ _ ?_ (fun hHeld => ?_)
            · exact hy2
            clear hK K
            try simp only [Act.put, List.setIfInBounds_toArray, List.set_cons_zero, List.set_cons_succ]
            refine take_one (i := 6) rfl (by kernel_rfl) (fun K hK => ?_)
            go_simp
            (refine hal.mono ?_; rintro e z3 ⟨rfl, hz3⟩; have hX3 := hX2.below hz3; clear hal)
            try go_wp2_with fail
            refine hK.out _ _ ?_ (fun hHeld => ?_)
            · exact (hz3.block _ hX2.lt).trans hy2
            clear hK K
            try simp only [Act.put, List.setIfInBounds_toArray, List.set_cons_zero, List.set_cons_succ]
            refine take_on (i := 7) (v := ?_) rfl rfl (by kernel_rfl) (by kernel_rfl) (by kernel_rfl) (fun _ _ _ h => h) rfl ?_ hHeld ?_
            rotate_left
            · (intro wq hSq; have xk := hSq.trans k0; have t0 := cell_of_row _ _ 0 _ _ _ xk; have t1 := cell_of_row _ _ 1 _ _ _ xk; have t2 := cell_of_row _ _ 2 _ _ _ xk; have t3 := cell_of_row _ _ 3 _ _ _ xk; have t4 := cell_of_row _ _ 4 _ _ _ xk; have t5 := cell_of_row _ _ 5 _ _ _ xk; go_simp <;> first | with_reducible rfl | rfl)
            simp only [Act.put, List.setIfInBounds_toArray, List.set_cons_zero, List.set_cons_succ]
            refine wpAnyH_done (by kernel_rfl) ?_ _
            have HY := hide_it hX3.duo
            clear hX2 hX3 hz3 hy1 hy2 hy3
            go_wp2
            go_roundw
            case rel => exact ⟨k + 1, V2, C2, by omega, by go_num, HY, HV2, HG1, HG2⟩
            case measure => simp [intOf]; omega
          · skip
            have q2 : (x.k == 2) = false := by simpa using hk
            have nk2 := hk
            clear hk
            by_cases hk : x.k = 5
            · skip
              have q6 : (x.k == 6) = false := by rw [hk]; rfl
              have q2 : (x.k == 2) = false := by rw [hk]; rfl
              have q5 : (x.k == 5) = true := by rw [hk]; rfl
              have q0 : (x.k == 0) = false := by rw [hk]; rfl
              have q1 : (x.k == 1) = false := by rw [hk]; rfl
              have q3 : (x.k == 3) = false := by rw [hk]; rfl
              have hkk : x.k = 0 ∨ x.k = 2 ∨ x.k = 5 ∨ (h ≤ x.stamp ∧ (x.k = 1 ∨ x.k = 3)) := by omega
              have hcl := (hX.below ((Below.refl _ _).drew)).bothS HFa HFb x hx
              rw [HV.out.td hnd x hkk] at hcl
              have HV2 := hide_it (HV.out.next x (by omega))
              have htf := td_fineV HFb x (by omega)
              have hal := fun z v1 v2 (a1 : TdIs z v1 (tdA C x)) (a2 : TdIs z v2 (tdA C x)) => alike_same a1 a2 htf
              unfold stepV at hcl
              have hl0 : wr.heap.size < W.heap.size := by omega
              clear c0 c1 c2 c3 c4 c5 hrow hx hbW heach hX HD HFa HFb hnd HF1 HF2 htf hkk hk HV HG3 HG4
              generalize nextA V x = V2 at *
              generalize nextA C x = C2 at *
              go_wp2_with fail
              try rw [← hW]
              clear hW d0 d1 d2 d3 d4 d5
              refine wp_region_held_drew (S := (fun w' => w'.heap[wr.heap.size]? = W.heap[wr.heap.size]?)) (by kernel_rfl) ?_ (fun hHeld => ?_)
              · rfl
              refine take_on (i := 0) (v := ?_) rfl rfl (by kernel_rfl) (by kernel_rfl) (by kernel_rfl) (fun _ _ _ h => h) rfl ?_ hHeld ?_
              rotate_left
              · (intro wq hSq; have xk := hSq.trans k0; have t0 := cell_of_row _ _ 0 _ _ _ xk; have t1 := cell_of_row _ _ 1 _ _ _ xk; have t2 := cell_of_row _ _ 2 _ _ _ xk; have t3 := cell_of_row _ _ 3 _ _ _ xk; have t4 := cell_of_row _ _ 4 _ _ _ xk; have t5 := cell_of_row _ _ 5 _ _ _ xk; go_simp <;> first | with_reducible rfl | rfl)
              simp only [Act.put, List.setIfInBounds_toArray, List.set_cons_zero, List.set_cons_succ]
              refine take_on (i := 1) (v := ?_) rfl rfl (by kernel_rfl) (by kernel_rfl) (by kernel_rfl) (fun _ _ _ h => h) rfl ?_ hHeld ?_
              rotate_left
              · (intro wq hSq; have xk := hSq.trans k0; have t0 := cell_of_row _ _ 0 _ _ _ xk; have t1 := cell_of_row _ _ 1 _ _ _ xk; have t2 := cell_of_row _ _ 2 _ _ _ xk; have t3 := cell_of_row _ _ 3 _ _ _ xk; have t4 := cell_of_row _ _ 4 _ _ _ xk; have t5 := cell_of_row _ _ 5 _ _ _ xk; go_simp <;> first | with_reducible rfl | rfl)
              simp only [Act.put, List.setIfInBounds_toArray, List.set_cons_zero, List.set_cons_succ]
              refine take_on (i := 3) (v := ?_) rfl rfl (by kernel_rfl) (by kernel_rfl) (by kernel_rfl) (fun _ _ _ h => h) rfl ?_ hHeld ?_
              rotate_left
              · (intro wq hSq; have xk := hSq.trans k0; have t0 := cell_of_row _ _ 0 _ _ _ xk; have t1 := cell_of_row _ _ 1 _ _ _ xk; have t2 := cell_of_row _ _ 2 _ _ _ xk; have t3 := cell_of_row _ _ 3 _ _ _ xk; have t4 := cell_of_row _ _ 4 _ _ _ xk; have t5 := cell_of_row _ _ 5 _ _ _ xk; go_simp <;> first | with_reducible rfl | rfl)
              simp only [Act.put, List.setIfInBounds_toArray, List.set_cons_zero, List.set_cons_succ]
              refine take_on (i := 4) (v := ?_) rfl rfl (by kernel_rfl) (by kernel_rfl) (by kernel_rfl) (fun _ _ _ h => h) rfl ?_ hHeld ?_
              rotate_left
              · (intro wq hSq; have xk := hSq.trans k0; have t0 := cell_of_row _ _ 0 _ _ _ xk; have t1 := cell_of_row _ _ 1 _ _ _ xk; have t2 := cell_of_row _ _ 2 _ _ _ xk; have t3 := cell_of_row _ _ 3 _ _ _ xk; have t4 := cell_of_row _ _ 4 _ _ _ xk; have t5 := cell_of_row _ _ 5 _ _ _ xk; go_simp <;> first | with_reducible rfl | rfl)
              simp only [Act.put, List.setIfInBounds_toArray, List.set_cons_zero, List.set_cons_succ]
              refine take_one (i := 2) rfl (by kernel_rfl) (fun K hK => ?_)
              go_simp
              (refine hcl.mono ?_; rintro e z1 ⟨v1, rfl, hy1, hb1, hcl2⟩; clear hcl)
              try go_wp2_with fail
              refine hK.out _ _ ?_ (fun hHeld => ?_)
              · exact hy1
              clear hK K
              try simp only [Act.put, List.setIfInBounds_toArray, List.set_cons_zero, List.set_cons_succ]
              refine take_one (i := 5) rfl (by kernel_rfl) (fun K hK => ?_)
              go_simp
              (refine hcl2.mono ?_; rintro e z2 ⟨v2, rfl, hv1, hv2, hX2, hy2⟩; replace hal := hal z2 v1 v2 hv1 hv2; have hy3 := hX2.bel; clear hv1 hv2 hcl2)
              try go_wp2_with fail
              refine hK.out _ _ ?_ (fun hHeld => ?_)
              · exact hy2
              clear hK K
              try simp only [Act.put, List.setIfInBounds_toArray, List.set_cons_zero, List.set_cons_succ]
              refine take_one (i := 6) rfl (by kernel_rfl) (fun K hK => ?_)
              go_simp
              (refine hal.mono ?_; rintro e z3 ⟨rfl, hz3⟩; have hX3 := hX2.below hz3; clear hal)
              try go_wp2_with fail
              refine hK.out _ _ ?_ (fun hHeld => ?_)
              · exact (hz3.block _ hX2.lt).trans hy2
              clear hK K
              try simp only [Act.put, List.setIfInBounds_toArray, List.set_cons_zero, List.set_cons_succ]
              refine take_on (i := 7) (v := ?_) rfl rfl (by kernel_rfl) (by kernel_rfl) (by kernel_rfl) (fun _ _ _ h => h) rfl ?_ hHeld ?_
              rotate_left
              · (intro wq hSq; have xk := hSq.trans k0; have t0 := cell_of_row _ _ 0 _ _ _ xk; have t1 := cell_of_row _ _ 1 _ _ _ xk; have t2 := cell_of_row _ _ 2 _ _ _ xk; have t3 := cell_of_row _ _ 3 _ _ _ xk; have t4 := cell_of_row _ _ 4 _ _ _ xk; have t5 := cell_of_row _ _ 5 _ _ _ xk; go_simp <;> first | with_reducible rfl | rfl)
              simp only [Act.put, List.setIfInBounds_toArray, List.set_cons_zero, List.set_cons_succ]
              refine wpAnyH_done (by kernel_rfl) ?_ _
              have HY := hide_it hX3.duo
              clear hX2 hX3 hz3 hy1 hy2 hy3
              go_wp2
              go_roundw
              case rel => exact ⟨k + 1, V2, C2, by omega, by go_num, HY, HV2, HG1, HG2⟩
              case measure => simp [intOf]; omega
            · skip
              have q5 : (x.k == 5) = false := by simpa using hk
              have nk5 := hk
              clear hk
              by_cases hk : x.k = 6
              · skip
                have q6 : (x.k == 6) = true := by rw [hk]; rfl
                have q2 : (x.k == 2) = false := by rw [hk]; rfl
                have q5 : (x.k == 5) = false := by rw [hk]; rfl
                have q0 : (x.k == 0) = false := by rw [hk]; rfl
                have q1 : (x.k == 1) = false := by rw [hk]; rfl
                have q3 : (x.k == 3) = false := by rw [hk]; rfl
                have hl1 := hX.duo.len HFa
                have hvl := HV.out.len
                have hdu := hX.duo
                clear c0 c1 c2 c3 c4 c5 hrow hx hbW heach hX HD HFa HFb hnd HF1 HF2 HG1 HG2 hk
                go_wp2_with fail
                try rw [← hW]
                clear hW d0 d1 d2 d3 d4 d5
                refine hl1.mono ?_
                rintro e z1 ⟨rfl, hb1⟩
                have hd1 := hdu.below hb1
                have hl2 := hd1.swap.len (HG4.out.fine (by omega))
                have k1 := (hb1.block wr.heap.size (by omega)).trans k0
                have hs1 := hb1.size
                clear hl1 hdu hb1 t0 t2
                go_wp2_with fail
                refine hl2.mono ?_
                rintro e z2 ⟨rfl, hb2⟩
                have HY := hide_it (hd1.below hb2)
                have k2 := (hb2.block wr.heap.size (by omega)).trans k1
                have t0 := cell_of_row _ _ 0 _ _ _ k2
                have t2 := cell_of_row _ _ 2 _ _ _ k2
                clear hl2 hd1 hb2
                go_wp2
                go_roundw
                case rel => exact ⟨k + 1, V, C, by omega, by go_num, HY, HV, HG3, HG4⟩
                case measure => simp [intOf]; omega
              · skip
                have q6 : (x.k == 6) = false := by simpa using hk
                clear hk
                by_cases hk : x.k = 1
                · skip
                  have q6 : (x.k == 6) = false := by rw [hk]; rfl
                  have q2 : (x.k == 2) = false := by rw [hk]; rfl
                  have q5 : (x.k == 5) = false := by rw [hk]; rfl
                  have q0 : (x.k == 0) = false := by rw [hk]; rfl
                  have q1 : (x.k == 1) = true := by rw [hk]; rfl
                  have q3 : (x.k == 3) = false := by rw [hk]; rfl
                  have hkk : x.k = 0 ∨ x.k = 2 ∨ x.k = 5 ∨ (h ≤ x.stamp ∧ (x.k = 1 ∨ x.k = 3)) := by omega
                  have hcl := (hX.below ((Below.refl _ _).drew)).bothS HFa HFb x hx
                  rw [HV.out.td hnd x hkk] at hcl
                  have HV2 := hide_it (HV.out.next x (by omega))
                  have htf := td_fineV HFb x (by omega)
                  have hal := fun z v1 v2 (a1 : TdIs z v1 (tdA C x)) (a2 : TdIs z v2 (tdA C x)) => alike_same a1 a2 htf
                  unfold stepV at hcl
                  have hl0 : wr.heap.size < W.heap.size := by omega
                  clear c0 c1 c2 c3 c4 c5 hrow hx hbW heach hX HD HFa HFb hnd HF1 HF2 htf hkk hk HV HG3 HG4
                  generalize nextA V x = V2 at *
                  generalize nextA C x = C2 at *
                  go_wp2_with fail
                  try rw [← hW]
                  clear hW d0 d1 d2 d3 d4 d5
                  refine wp_region_held_drew (S := (fun w' => w'.heap[wr.heap.size]? = W.heap[wr.heap.size]?)) (by kernel_rfl) ?_ (fun hHeld => ?_)
                  · rfl
                  refine take_on (i := 0) (v := ?_) rfl rfl (by kernel_rfl) (by kernel_rfl) (by kernel_rfl) (fun _ _ _ h => h) rfl ?_ hHeld ?_
                  rotate_left
                  · (intro wq hSq; have xk := hSq.trans k0; have t0 := cell_of_row _ _ 0 _ _ _ xk; have t1 := cell_of_row _ _ 1 _ _ _ xk; have t2 := cell_of_row _ _ 2 _ _ _ xk; have t3 := cell_of_row _ _ 3 _ _ _ xk; have t4 := cell_of_row _ _ 4 _ _ _ xk; have t5 := cell_of_row _ _ 5 _ _ _ xk; go_simp <;> first | with_reducible rfl | rfl)
                  simp only [Act.put, List.setIfInBounds_toArray, List.set_cons_zero, List.set_cons_succ]
                  refine take_on (i := 1) (v := ?_) rfl rfl (by kernel_rfl) (by kernel_rfl) (by kernel_rfl) (fun _ _ _ h => h) rfl ?_ hHeld ?_
                  rotate_left
                  · (intro wq hSq; have xk := hSq.trans k0; have t0 := cell_of_row _ _ 0 _ _ _ xk; have t1 := cell_of_row _ _ 1 _ _ _ xk; have t2 := cell_of_row _ _ 2 _ _ _ xk; have t3 := cell_of_row _ _ 3 _ _ _ xk; have t4 := cell_of_row _ _ 4 _ _ _ xk; have t5 := cell_of_row _ _ 5 _ _ _ xk; go_simp <;> first | with_reducible rfl | rfl)
                  simp only [Act.put, List.setIfInBounds_toArray, List.set_cons_zero, List.set_cons_succ]
                  refine take_on (i := 3) (v := ?_) rfl rfl (by kernel_rfl) (by kernel_rfl) (by kernel_rfl) (fun _ _ _ h => h) rfl ?_ hHeld ?_
                  rotate_left
                  · (intro wq hSq; have xk := hSq.trans k0; have t0 := cell_of_row _ _ 0 _ _ _ xk; have t1 := cell_of_row _ _ 1 _ _ _ xk; have t2 := cell_of_row _ _ 2 _ _ _ xk; have t3 := cell_of_row _ _ 3 _ _ _ xk; have t4 := cell_of_row _ _ 4 _ _ _ xk; have t5 := cell_of_row _ _ 5 _ _ _ xk; go_simp <;> first | with_reducible rfl | rfl)
                  simp only [Act.put, List.setIfInBounds_toArray, List.set_cons_zero, List.set_cons_succ]
                  refine take_on (i := 4) (v := ?_) rfl rfl (by kernel_rfl) (by kernel_rfl) (by kernel_rfl) (fun _ _ _ h => h) rfl ?_ hHeld ?_
                  rotate_left
                  · (intro wq hSq; have xk := hSq.trans k0; have t0 := cell_of_row _ _ 0 _ _ _ xk; have t1 := cell_of_row _ _ 1 _ _ _ xk; have t2 := cell_of_row _ _ 2 _ _ _ xk; have t3 := cell_of_row _ _ 3 _ _ _ xk; have t4 := cell_of_row _ _ 4 _ _ _ xk; have t5 := cell_of_row _ _ 5 _ _ _ xk; go_simp <;> first | with_reducible rfl | rfl)
                  simp only [Act.put, List.setIfInBounds_toArray, List.set_cons_zero, List.set_cons_succ]
                  refine take_one (i := 2) rfl (by kernel_rfl) (fun K hK => ?_)
                  go_simp
                  (refine hcl.mono ?_; rintro e z1 ⟨v1, rfl, hy1, hb1, hcl2⟩; clear hcl)
                  try go_wp2_with fail
                  refine hK.out _ _ ?_ (fun hHeld => ?_)
                  · exact hy1
                  clear hK K
                  try simp only [Act.put, List.setIfInBounds_toArray, List.set_cons_zero, List.set_cons_succ]
                  refine take_one (i := 5) rfl (by kernel_rfl) (fun K hK => ?_)
                  go_simp
                  (refine hcl2.mono ?_; rintro e z2 ⟨v2, rfl, hv1, hv2, hX2, hy2⟩; replace hal := hal z2 v1 v2 hv1 hv2; have hy3 := hX2.bel; clear hv1 hv2 hcl2)
                  try go_wp2_with fail
                  refine hK.out _ _ ?_ (fun hHeld => ?_)
                  · exact hy2
                  clear hK K
                  try simp only [Act.put, List.setIfInBounds_toArray, List.set_cons_zero, List.set_cons_succ]
                  refine take_one (i := 6) rfl (by kernel_rfl) (fun K hK => ?_)
                  go_simp
                  (refine hal.mono ?_; rintro e z3 ⟨rfl, hz3⟩; have hX3 := hX2.below hz3; clear hal)
                  try go_wp2_with fail
                  refine hK.out _ _ ?_ (fun hHeld => ?_)
                  · exact (hz3.block _ hX2.lt).trans hy2
                  clear hK K
                  try simp only [Act.put, List.setIfInBounds_toArray, List.set_cons_zero, List.set_cons_succ]
                  refine take_on (i := 7) (v := ?_) rfl rfl (by kernel_rfl) (by kernel_rfl) (by kernel_rfl) (fun _ _ _ h => h) rfl ?_ hHeld ?_
                  rotate_left
                  · (intro wq hSq; have xk := hSq.trans k0; have t0 := cell_of_row _ _ 0 _ _ _ xk; have t1 := cell_of_row _ _ 1 _ _ _ xk; have t2 := cell_of_row _ _ 2 _ _ _ xk; have t3 := cell_of_row _ _ 3 _ _ _ xk; have t4 := cell_of_row _ _ 4 _ _ _ xk; have t5 := cell_of_row _ _ 5 _ _ _ xk; go_simp <;> first | with_reducible rfl | rfl)
                  simp only [Act.put, List.setIfInBounds_toArray, List.set_cons_zero, List.set_cons_succ]
                  refine wpAnyH_done (by kernel_rfl) ?_ _
                  have HY := hide_it hX3.duo
                  clear hX2 hX3 hz3 hy1 hy2 hy3
                  go_wp2
                  go_roundw
                  case rel => exact ⟨k + 1, V2, C2, by omega, by go_num, HY, HV2, HG1, HG2⟩
                  case measure => simp [intOf]; omega
                · skip
                  have q1 : (x.k == 1) = false := by simpa using hk
                  clear hk
                  by_cases hk : x.k = 3
                  · skip
                    have q6 : (x.k == 6) = false := by rw [hk]; rfl
                    have q2 : (x.k == 2) = false := by rw [hk]; rfl
                    have q5 : (x.k == 5) = false := by rw [hk]; rfl
                    have q0 : (x.k == 0) = false := by rw [hk]; rfl
                    have q1 : (x.k == 1) = false := by rw [hk]; rfl
                    have q3 : (x.k == 3) = true := by rw [hk]; rfl
                    have hkk : x.k = 0 ∨ x.k = 2 ∨ x.k = 5 ∨ (h ≤ x.stamp ∧ (x.k = 1 ∨ x.k = 3)) := by omega
                    have hcl := (hX.below ((Below.refl _ _).drew)).bothS HFa HFb x hx
                    rw [HV.out.td hnd x hkk] at hcl
                    have HV2 := hide_it (HV.out.next x (by omega))
                    have htf := td_fineV HFb x (by omega)
                    have hal := fun z v1 v2 (a1 : TdIs z v1 (tdA C x)) (a2 : TdIs z v2 (tdA C x)) => alike_same a1 a2 htf
                    unfold stepV at hcl
                    have hl0 : wr.heap.size < W.heap.size := by omega
                    clear c0 c1 c2 c3 c4 c5 hrow hx hbW heach hX HD HFa HFb hnd HF1 HF2 htf hkk hk HV HG3 HG4
                    generalize nextA V x = V2 at *
                    generalize nextA C x = C2 at *
                    go_wp2_with fail
                    try rw [← hW]
                    clear hW d0 d1 d2 d3 d4 d5
                    refine wp_region_held_drew (S := (fun w' => w'.heap[wr.heap.size]? = W.heap[wr.heap.size]?)) (by kernel_rfl) ?_ (fun hHeld => ?_)
                    · rfl
                    refine take_on (i := 0) (v := ?_) rfl rfl (by kernel_rfl) (by kernel_rfl) (by kernel_rfl) (fun _ _ _ h => h) rfl ?_ hHeld ?_
                    rotate_left
                    · (intro wq hSq; have xk := hSq.trans k0; have t0 := cell_of_row _ _ 0 _ _ _ xk; have t1 := cell_of_row _ _ 1 _ _ _ xk; have t2 := cell_of_row _ _ 2 _ _ _ xk; have t3 := cell_of_row _ _ 3 _ _ _ xk; have t4 := cell_of_row _ _ 4 _ _ _ xk; have t5 := cell_of_row _ _ 5 _ _ _ xk; go_simp <;> first | with_reducible rfl | rfl)
                    simp only [Act.put, List.setIfInBounds_toArray, List.set_cons_zero, List.set_cons_succ]
                    refine take_on (i := 1) (v := ?_) rfl rfl (by kernel_rfl) (by kernel_rfl) (by kernel_rfl) (fun _ _ _ h => h) rfl ?_ hHeld ?_
                    rotate_left
                    · (intro wq hSq; have xk := hSq.trans k0; have t0 := cell_of_row _ _ 0 _ _ _ xk; have t1 := cell_of_row _ _ 1 _ _ _ xk; have t2 := cell_of_row _ _ 2 _ _ _ xk; have t3 := cell_of_row _ _ 3 _ _ _ xk; have t4 := cell_of_row _ _ 4 _ _ _ xk; have t5 := cell_of_row _ _ 5 _ _ _ xk; go_simp <;> first | with_reducible rfl | rfl)
                    simp only [Act.put, List.setIfInBounds_toArray, List.set_cons_zero, List.set_cons_succ]
                    refine take_on (i := 3) (v := ?_) rfl rfl (by kernel_rfl) (by kernel_rfl) (by kernel_rfl) (fun _ _ _ h => h) rfl ?_ hHeld ?_
                    rotate_left
                    · (intro wq hSq; have xk := hSq.trans k0; have t0 := cell_of_row _ _ 0 _ _ _ xk; have t1 := cell_of_row _ _ 1 _ _ _ xk; have t2 := cell_of_row _ _ 2 _ _ _ xk; have t3 := cell_of_row _ _ 3 _ _ _ xk; have t4 := cell_of_row _ _ 4 _ _ _ xk; have t5 := cell_of_row _ _ 5 _ _ _ xk; go_simp <;> first | with_reducible rfl | rfl)
                    simp only [Act.put, List.setIfInBounds_toArray, List.set_cons_zero, List.set_cons_succ]
                    refine take_on (i := 4) (v := ?_) rfl rfl (by kernel_rfl) (by kernel_rfl) (by kernel_rfl) (fun _ _ _ h => h) rfl ?_ hHeld ?_
                    rotate_left
                    · (intro wq hSq; have xk := hSq.trans k0; have t0 := cell_of_row _ _ 0 _ _ _ xk; have t1 := cell_of_row _ _ 1 _ _ _ xk; have t2 := cell_of_row _ _ 2 _ _ _ xk; have t3 := cell_of_row _ _ 3 _ _ _ xk; have t4 := cell_of_row _ _ 4 _ _ _ xk; have t5 := cell_of_row _ _ 5 _ _ _ xk; go_simp <;> first | with_reducible rfl | rfl)
                    simp only [Act.put, List.setIfInBounds_toArray, List.set_cons_zero, List.set_cons_succ]
                    refine take_one (i := 2) rfl (by kernel_rfl) (fun K hK => ?_)
                    go_simp
                    (refine hcl.mono ?_; rintro e z1 ⟨v1, rfl, hy1, hb1, hcl2⟩; clear hcl)
                    try go_wp2_with fail
                    refine hK.out _ _ ?_ (fun hHeld => ?_)
                    · exact hy1
                    clear hK K
                    try simp only [Act.put, List.setIfInBounds_toArray, List.set_cons_zero, List.set_cons_succ]
                    refine take_one (i := 5) rfl (by kernel_rfl) (fun K hK => ?_)
                    go_simp
                    (refine hcl2.mono ?_; rintro e z2 ⟨v2, rfl, hv1, hv2, hX2, hy2⟩; replace hal := hal z2 v1 v2 hv1 hv2; have hy3 := hX2.bel; clear hv1 hv2 hcl2)
                    try go_wp2_with fail
                    refine hK.out _ _ ?_ (fun hHeld => ?_)
                    · exact hy2
                    clear hK K
                    try simp only [Act.put, List.setIfInBounds_toArray, List.set_cons_zero, List.set_cons_succ]
                    refine take_one (i := 6) rfl (by kernel_rfl) (fun K hK => ?_)
                    go_simp
                    (refine hal.mono ?_; rintro e z3 ⟨rfl, hz3⟩; have hX3 := hX2.below hz3; clear hal)
                    try go_wp2_with fail
                    refine hK.out _ _ ?_ (fun hHeld => ?_)
                    · exact (hz3.block _ hX2.lt).trans hy2
                    clear hK K
                    try simp only [Act.put, List.setIfInBounds_toArray, List.set_cons_zero, List.set_cons_succ]
                    refine take_on (i := 7) (v := ?_) rfl rfl (by kernel_rfl) (by kernel_rfl) (by kernel_rfl) (fun _ _ _ h => h) rfl ?_ hHeld ?_
                    rotate_left
                    · (intro wq hSq; have xk := hSq.trans k0; have t0 := cell_of_row _ _ 0 _ _ _ xk; have t1 := cell_of_row _ _ 1 _ _ _ xk; have t2 := cell_of_row _ _ 2 _ _ _ xk; have t3 := cell_of_row _ _ 3 _ _ _ xk; have t4 := cell_of_row _ _ 4 _ _ _ xk; have t5 := cell_of_row _ _ 5 _ _ _ xk; go_simp <;> first | with_reducible rfl | rfl)
                    simp only [Act.put, List.setIfInBounds_toArray, List.set_cons_zero, List.set_cons_succ]
                    refine wpAnyH_done (by kernel_rfl) ?_ _
                    have HY := hide_it hX3.duo
                    clear hX2 hX3 hz3 hy1 hy2 hy3
                    go_wp2
                    go_roundw
                    case rel => exact ⟨k + 1, V2, C2, by omega, by go_num, HY, HV2, HG1, HG2⟩
                    case measure => simp [intOf]; omega
                  · skip
                    have q3 : (x.k == 3) = false := by simpa using hk
                    clear hk
                    have HY := hide_it hX.duo
                    clear c0 c1 c2 c3 c4 c5 hrow hx hbW heach hX HD HFa HFb hnd HF1 HF2 HG1 HG2
                    go_wp2_with fail
                    try rw [← hW]
                    clear hW d0 d1 d2 d3 d4 d5
                    go_wp2
                    go_roundw
                    case rel => exact ⟨k + 1, V, C, by omega, by go_num, HY, HV, HG3, HG4⟩
                    case measure => simp [intOf]; omega
      · have hd1 : decide (h ≤ x.stamp) = false := decide_eq_false hst
        by_cases hk : x.k = 0
        · skip
          have q6 : (x.k == 6) = false := by rw [hk]; rfl
          have q2 : (x.k == 2) = false := by rw [hk]; rfl
          have q5 : (x.k == 5) = false := by rw [hk]; rfl
          have q0 : (x.k == 0) = true := by rw [hk]; rfl
          have q1 : (x.k == 1) = false := by rw [hk]; rfl
          have q3 : (x.k == 3) = false := by rw [hk]; rfl
          have hkk : x.k = 0 ∨ x.k = 2 ∨ x.k = 5 ∨ (h ≤ x.stamp ∧ (x.k = 1 ∨ x.k = 3)) := by omega
          have hcl := (hX.below ((Below.refl _ _).drew)).bothS HFa HFb x hx
          rw [HV.out.td hnd x hkk] at hcl
          have HV2 := hide_it (HV.out.next x (by omega))
          have htf := td_fineV HFb x (by omega)
          have hal := fun z v1 v2 (a1 : TdIs z v1 (tdA C x)) (a2 : TdIs z v2 (tdA C x)) => alike_same a1 a2 htf
          unfold stepV at hcl
          have hl0 : wr.heap.size < W.heap.size := by omega
          clear c0 c1 c2 c3 c4 c5 hrow hx hbW heach hX HD HFa HFb hnd HF1 HF2 htf hkk hk HV HG3 HG4
          generalize nextA V x = V2 at *
          generalize nextA C x = C2 at *
          go_wp2_with fail
          try rw [← hW]
          clear hW d0 d1 d2 d3 d4 d5
          refine wp_region_held_drew (S := (fun w' => w'.heap[wr.heap.size]? = W.heap[wr.heap.size]?)) (by kernel_rfl) ?_ (fun hHeld => ?_)
          · rfl
          refine take_on (i := 0) (v := ?_) rfl rfl (by kernel_rfl) (by kernel_rfl) (by kernel_rfl) (fun _ _ _ h => h) rfl ?_ hHeld ?_
          rotate_left
          · (intro wq hSq; have xk := hSq.trans k0; have t0 := cell_of_row _ _ 0 _ _ _ xk; have t1 := cell_of_row _ _ 1 _ _ _ xk; have t2 := cell_of_row _ _ 2 _ _ _ xk; have t3 := cell_of_row _ _ 3 _ _ _ xk; have t4 := cell_of_row _ _ 4 _ _ _ xk; have t5 := cell_of_row _ _ 5 _ _ _ xk; go_simp <;> first | with_reducible rfl | rfl)
          simp only [Act.put, List.setIfInBounds_toArray, List.set_cons_zero, List.set_cons_succ]
          refine take_on (i := 1) (v := ?_) rfl rfl (by kernel_rfl) (by kernel_rfl) (by kernel_rfl) (fun _ _ _ h => h) rfl ?_ hHeld ?_
          rotate_left
          · (intro wq hSq; have xk := hSq.trans k0; have t0 := cell_of_row _ _ 0 _ _ _ xk; have t1 := cell_of_row _ _ 1 _ _ _ xk; have t2 := cell_of_row _ _ 2 _ _ _ xk; have t3 := cell_of_row _ _ 3 _ _ _ xk; have t4 := cell_of_row _ _ 4 _ _ _ xk; have t5 := cell_of_row _ _ 5 _ _ _ xk; go_simp <;> first | with_reducible rfl | rfl)
          simp only [Act.put, List.setIfInBounds_toArray, List.set_cons_zero, List.set_cons_succ]
          refine take_on (i := 3) (v := ?_) rfl rfl (by kernel_rfl) (by kernel_rfl) (by kernel_rfl) (fun _ _ _ h => h) rfl ?_ hHeld ?_
          rotate_left
          · (intro wq hSq; have xk := hSq.trans k0; have t0 := cell_of_row _ _ 0 _ _ _ xk; have t1 := cell_of_row _ _ 1 _ _ _ xk; have t2 := cell_of_row _ _ 2 _ _ _ xk; have t3 := cell_of_row _ _ 3 _ _ _ xk; have t4 := cell_of_row _ _ 4 _ _ _ xk; have t5 := cell_of_row _ _ 5 _ _ _ xk; go_simp <;> first | with_reducible rfl | rfl)
          simp only [Act.put, List.setIfInBounds_toArray, List.set_cons_zero, List.set_cons_succ]
          refine take_on (i := 4) (v := ?_) rfl rfl (by kernel_rfl) (by kernel_rfl) (by kernel_rfl) (fun _ _ _ h => h) rfl ?_ hHeld ?_
          rotate_left
          · (intro wq hSq; have xk := hSq.trans k0; have t0 := cell_of_row _ _ 0 _ _ _ xk; have t1 := cell_of_row _ _ 1 _ _ _ xk; have t2 := cell_of_row _ _ 2 _ _ _ xk; have t3 := cell_of_row _ _ 3 _ _ _ xk; have t4 := cell_of_row _ _ 4 _ _ _ xk; have t5 := cell_of_row _ _ 5 _ _ _ xk; go_simp <;> first | with_reducible rfl | rfl)
          simp only [Act.put, List.setIfInBounds_toArray, List.set_cons_zero, List.set_cons_succ]
          refine take_one (i := 2) rfl (by kernel_rfl) (fun K hK => ?_)
          go_simp
          (refine hcl.mono ?_; rintro e z1 ⟨v1, rfl, hy1, hb1, hcl2⟩; clear hcl)
          try go_wp2_with fail
          refine hK.out _ _ ?_ (fun hHeld => ?_)
          · exact hy1
          clear hK K
          try simp only [Act.put, List.setIfInBounds_toArray, List.set_cons_zero, List.set_cons_succ]
          refine take_one (i := 5) rfl (by kernel_rfl) (fun K hK => ?_)
          go_simp
          (refine hcl2.mono ?_; rintro e z2 ⟨v2, rfl, hv1, hv2, hX2, hy2⟩; replace hal := hal z2 v1 v2 hv1 hv2; have hy3 := hX2.bel; clear hv1 hv2 hcl2)
          try go_wp2_with fail
          refine hK.out _ _ ?_ (fun hHeld => ?_)
          · exact hy2
          clear hK K
          try simp only [Act.put, List.setIfInBounds_toArray, List.set_cons_zero, List.set_cons_succ]
          refine take_one (i := 6) rfl (by kernel_rfl) (fun K hK => ?_)
          go_simp
          (refine hal.mono ?_; rintro e z3 ⟨rfl, hz3⟩; have hX3 := hX2.below hz3; clear hal)
          try go_wp2_with fail
          refine hK.out _ _ ?_ (fun hHeld => ?_)
          · exact (hz3.block _ hX2.lt).trans hy2
          clear hK K
          try simp only [Act.put, List.setIfInBounds_toArray, List.set_cons_zero, List.set_cons_succ]
          refine take_on (i := 7) (v := ?_) rfl rfl (by kernel_rfl) (by kernel_rfl) (by kernel_rfl) (fun _ _ _ h => h) rfl ?_ hHeld ?_
          rotate_left
          · (intro wq hSq; have xk := hSq.trans k0; have t0 := cell_of_row _ _ 0 _ _ _ xk; have t1 := cell_of_row _ _ 1 _ _ _ xk; have t2 := cell_of_row _ _ 2 _ _ _ xk; have t3 := cell_of_row _ _ 3 _ _ _ xk; have t4 := cell_of_row _ _ 4 _ _ _ xk; have t5 := cell_of_row _ _ 5 _ _ _ xk; go_simp <;> first | with_reducible rfl | rfl)
          simp only [Act.put, List.setIfInBounds_toArray, List.set_cons_zero, List.set_cons_succ]
          refine wpAnyH_done (by kernel_rfl) ?_ _
          have HY := hide_it hX3.duo
          clear hX2 hX3 hz3 hy1 hy2 hy3
          go_wp2
          go_roundw
          case rel => exact ⟨k + 1, V2, C2, by omega, by go_num, HY, HV2, HG1, HG2⟩
          case measure => simp [intOf]; omega
        · skip
          have q0 : (x.k == 0) = false := by simpa using hk
          have nk0 := hk
          clear hk
          by_cases hk : x.k = 2
          · skip
            have q6 : (x.k == 6) = false := by rw [hk]; rfl
            have q2 : (x.k == 2) = true := by rw [hk]; rfl
            have q5 : (x.k == 5) = false := by rw [hk]; rfl
            have q0 : (x.k == 0) = false := by rw [hk]; rfl
            have q1 : (x.k == 1) = false := by rw [hk]; rfl
            have q3 : (x.k == 3) = false := by rw [hk]; rfl
            have hkk : x.k = 0 ∨ x.k = 2 ∨ x.k = 5 ∨ (h ≤ x.stamp ∧ (x.k = 1 ∨ x.k = 3)) := by omega
            have hcl := (hX.below ((Below.refl _ _).drew)).bothS HFa HFb x hx
            rw [HV.out.td hnd x hkk] at hcl
            have HV2 := hide_it (HV.out.next x (by omega))
            have htf := td_fineV HFb x (by omega)
            have hal := fun z v1 v2 (a1 : TdIs z v1 (tdA C x)) (a2 : TdIs z v2 (tdA C x)) => alike_same a1 a2 htf
            unfold stepV at hcl
            have hl0 : wr.heap.size < W.heap.size := by omega
            clear c0 c1 c2 c3 c4 c5 hrow hx hbW heach hX HD HFa HFb hnd HF1 HF2 htf hkk hk HV HG3 HG4
            generalize nextA V x = V2 at *
            generalize nextA C x = C2 at *
            go_wp2_with fail
            try rw [← hW]
            clear hW d0 d1 d2 d3 d4 d5
            refine wp_region_held_drew (S := (fun w' => w'.heap[wr.heap.size]? = W.heap[wr.heap.size]?)) (by kernel_rfl) ?_ (fun hHeld => ?_)
            · rfl
            refine take_on (i := 0) (v := ?_) rfl rfl (by kernel_rfl) (by kernel_rfl) (by kernel_rfl) (fun _ _ _ h => h) rfl ?_ hHeld ?_
            rotate_left
            · (intro wq hSq; have xk := hSq.trans k0; have t0 := cell_of_row _ _ 0 _ _ _ xk; have t1 := cell_of_row _ _ 1 _ _ _ xk; have t2 := cell_of_row _ _ 2 _ _ _ xk; have t3 := cell_of_row _ _ 3 _ _ _ xk; have t4 := cell_of_row _ _ 4 _ _ _ xk; have t5 := cell_of_row _ _ 5 _ _ _ xk; go_simp <;> first | with_reducible rfl | rfl)
            simp only [Act.put, List.setIfInBounds_toArray, List.set_cons_zero, List.set_cons_succ]
            refine take_on (i := 1) (v := ?_) rfl rfl (by kernel_rfl) (by kernel_rfl) (by kernel_rfl) (fun _ _ _ h => h) rfl ?_ hHeld ?_
            rotate_left
            · (intro wq hSq; have xk := hSq.trans k0; have t0 := cell_of_row _ _ 0 _ _ _ xk; have t1 := cell_of_row _ _ 1 _ _ _ xk; have t2 := cell_of_row _ _ 2 _ _ _ xk; have t3 := cell_of_row _ _ 3 _ _ _ xk; have t4 := cell_of_row _ _ 4 _ _ _ xk; have t5 := cell_of_row _ _ 5 _ _ _ xk; go_simp <;> first | with_reducible rfl | rfl)
            simp only [Act.put, List.setIfInBounds_toArray, List.set_cons_zero, List.set_cons_succ]
            refine take_on (i := 3) (v := ?_) rfl rfl (by kernel_rfl) (by kernel_rfl) (by kernel_rfl) (fun _ _ _ h => h) rfl ?_ hHeld ?_
            rotate_left
            · (intro wq hSq; have xk := hSq.trans k0; have t0 := cell_of_row _ _ 0 _ _ _ xk; have t1 := cell_of_row _ _ 1 _ _ _ xk; have t2 := cell_of_row _ _ 2 _ _ _ xk; have t3 := cell_of_row _ _ 3 _ _ _ xk; have t4 := cell_of_row _ _ 4 _ _ _ xk; have t5 := cell_of_row _ _ 5 _ _ _ xk; go_simp <;> first | with_reducible rfl | rfl)
            simp only [Act.put, List.setIfInBounds_toArray, List.set_cons_zero, List.set_cons_succ]
            refine take_on (i := 4) (v := ?_) rfl rfl (by kernel_rfl) (by kernel_rfl) (by kernel_rfl) (fun _ _ _ h => h) rfl ?_ hHeld ?_
            rotate_left
            · (intro wq hSq; have xk := hSq.trans k0; have t0 := cell_of_row _ _ 0 _ _ _ xk; have t1 := cell_of_row _ _ 1 _ _ _ xk; have t2 := cell_of_row _ _ 2 _ _ _ xk; have t3 := cell_of_row _ _ 3 _ _ _ xk; have t4 := cell_of_row _ _ 4 _ _ _ xk; have t5 := cell_of_row _ _ 5 _ _ _ xk; go_simp <;> first | with_reducible rfl | rfl)
            simp only [Act.put, List.setIfInBounds_toArray, List.set_cons_zero, List.set_cons_succ]
            refine take_one (i := 2) rfl (by kernel_rfl) (fun K hK => ?_)
            go_simp
            (refine hcl.mono ?_; rintro e z1 ⟨v1, rfl, hy1, hb1, hcl2⟩; clear hcl)
            try go_wp2_with fail
            refine hK.out _ _ ?_ (fun hHeld => ?_)
            · exact hy1
            clear hK K
            try simp only [Act.put, List.setIfInBounds_toArray, List.set_cons_zero, List.set_cons_succ]
            refine take_one (i := 5) rfl (by kernel_rfl) (fun K hK => ?_)
            go_simp
            (refine hcl2.mono ?_; rintro e z2 ⟨v2, rfl, hv1, hv2, hX2, hy2⟩; replace hal := hal z2 v1 v2 hv1 hv2; have hy3 := hX2.bel; clear hv1 hv2 hcl2)
            try go_wp2_with fail
            refine hK.out _ _ ?_ (fun hHeld => ?_)
            · exact hy2
            clear hK K
            try simp only [Act.put, List.setIfInBounds_toArray, List.set_cons_zero, List.set_cons_succ]
            refine take_one (i := 6) rfl (by kernel_rfl) (fun K hK => ?_)
            go_simp
            (refine hal.mono ?_; rintro e z3 ⟨rfl, hz3⟩; have hX3 := hX2.below hz3; clear hal)
            try go_wp2_with fail
            refine hK.out _ _ ?_ (fun hHeld => ?_)
            · exact (hz3.block _ hX2.lt).trans hy2
            clear hK K
            try simp only [Act.put, List.setIfInBounds_toArray, List.set_cons_zero, List.set_cons_succ]
            refine take_on (i := 7) (v := ?_) rfl rfl (by kernel_rfl) (by kernel_rfl) (by kernel_rfl) (fun _ _ _ h => h) rfl ?_ hHeld ?_
            rotate_left
            · (intro wq hSq; have xk := hSq.trans k0; have t0 := cell_of_row _ _ 0 _ _ _ xk; have t1 := cell_of_row _ _ 1 _ _ _ xk; have t2 := cell_of_row _ _ 2 _ _ _ xk; have t3 := cell_of_row _ _ 3 _ _ _ xk; have t4 := cell_of_row _ _ 4 _ _ _ xk; have t5 := cell_of_row _ _ 5 _ _ _ xk; go_simp <;> first | with_reducible rfl | rfl)
            simp only [Act.put, List.setIfInBounds_toArray, List.set_cons_zero, List.set_cons_succ]
            refine wpAnyH_done (by kernel_rfl) ?_ _
            have HY := hide_it hX3.duo
            clear hX2 hX3 hz3 hy1 hy2 hy3
            go_wp2
            go_roundw
            case rel => exact ⟨k + 1, V2, C2, by omega, by go_num, HY, HV2, HG1, HG2⟩
            case measure => simp [intOf]; omega
          · skip
            have q2 : (x.k == 2) = false := by simpa using hk
            have nk2 := hk
            clear hk
            by_cases hk : x.k = 5
            · skip
              have q6 : (x.k == 6) = false := by rw [hk]; rfl
              have q2 : (x.k == 2) = false := by rw [hk]; rfl
              have q5 : (x.k == 5) = true := by rw [hk]; rfl
              have q0 : (x.k == 0) = false := by rw [hk]; rfl
              have q1 : (x.k == 1) = false := by rw [hk]; rfl
              have q3 : (x.k == 3) = false := by rw [hk]; rfl
              have hkk : x.k = 0 ∨ x.k = 2 ∨ x.k = 5 ∨ (h ≤ x.stamp ∧ (x.k = 1 ∨ x.k = 3)) := by omega
              have hcl := (hX.below ((Below.refl _ _).drew)).bothS HFa HFb x hx
              rw [HV.out.td hnd x hkk] at hcl
              have HV2 := hide_it (HV.out.next x (by omega))
              have htf := td_fineV HFb x (by omega)
              have hal := fun z v1 v2 (a1 : TdIs z v1 (tdA C x)) (a2 : TdIs z v2 (tdA C x)) => alike_same a1 a2 htf
              unfold stepV at hcl
              have hl0 : wr.heap.size < W.heap.size := by omega
              clear c0 c1 c2 c3 c4 c5 hrow hx hbW heach hX HD HFa HFb hnd HF1 HF2 htf hkk hk HV HG3 HG4
              generalize nextA V x = V2 at *
              generalize nextA C x = C2 at *
              go_wp2_with fail
              try rw [← hW]
              clear hW d0 d1 d2 d3 d4 d5
              refine wp_region_held_drew (S := (fun w' => w'.heap[wr.heap.size]? = W.heap[wr.heap.size]?)) (by kernel_rfl) ?_ (fun hHeld => ?_)
              · rfl
              refine take_on (i := 0) (v := ?_) rfl rfl (by kernel_rfl) (by kernel_rfl) (by kernel_rfl) (fun _ _ _ h => h) rfl ?_ hHeld ?_
              rotate_left
              · (intro wq hSq; have xk := hSq.trans k0; have t0 := cell_of_row _ _ 0 _ _ _ xk; have t1 := cell_of_row _ _ 1 _ _ _ xk; have t2 := cell_of_row _ _ 2 _ _ _ xk; have t3 := cell_of_row _ _ 3 _ _ _ xk; have t4 := cell_of_row _ _ 4 _ _ _ xk; have t5 := cell_of_row _ _ 5 _ _ _ xk; go_simp <;> first | with_reducible rfl | rfl)
              simp only [Act.put, List.setIfInBounds_toArray, List.set_cons_zero, List.set_cons_succ]
              refine take_on (i := 1) (v := ?_) rfl rfl (by kernel_rfl) (by kernel_rfl) (by kernel_rfl) (fun _ _ _ h => h) rfl ?_ hHeld ?_
              rotate_left
              · (intro wq hSq; have xk := hSq.trans k0; have t0 := cell_of_row _ _ 0 _ _ _ xk; have t1 := cell_of_row _ _ 1 _ _ _ xk; have t2 := cell_of_row _ _ 2 _ _ _ xk; have t3 := cell_of_row _ _ 3 _ _ _ xk; have t4 := cell_of_row _ _ 4 _ _ _ xk; have t5 := cell_of_row _ _ 5 _ _ _ xk; go_simp <;> first | with_reducible rfl | rfl)
              simp only [Act.put, List.setIfInBounds_toArray, List.set_cons_zero, List.set_cons_succ]
              refine take_on (i := 3) (v := ?_) rfl rfl (by kernel_rfl) (by kernel_rfl) (by kernel_rfl) (fun _ _ _ h => h) rfl ?_ hHeld ?_
              rotate_left
              · (intro wq hSq; have xk := hSq.trans k0; have t0 := cell_of_row _ _ 0 _ _ _ xk; have t1 := cell_of_row _ _ 1 _ _ _ xk; have t2 := cell_of_row _ _ 2 _ _ _ xk; have t3 := cell_of_row _ _ 3 _ _ _ xk; have t4 := cell_of_row _ _ 4 _ _ _ xk; have t5 := cell_of_row _ _ 5 _ _ _ xk; go_simp <;> first | with_reducible rfl | rfl)
              simp only [Act.put, List.setIfInBounds_toArray, List.set_cons_zero, List.set_cons_succ]
              refine take_on (i := 4) (v := ?_) rfl rfl (by kernel_rfl) (by kernel_rfl) (by kernel_rfl) (fun _ _ _ h => h) rfl ?_ hHeld ?_
              rotate_left
              · (intro wq hSq; have xk := hSq.trans k0; have t0 := cell_of_row _ _ 0 _ _ _ xk; have t1 := cell_of_row _ _ 1 _ _ _ xk; have t2 := cell_of_row _ _ 2 _ _ _ xk; have t3 := cell_of_row _ _ 3 _ _ _ xk; have t4 := cell_of_row _ _ 4 _ _ _ xk; have t5 := cell_of_row _ _ 5 _ _ _ xk; go_simp <;> first | with_reducible rfl | rfl)
              simp only [Act.put, List.setIfInBounds_toArray, List.set_cons_zero, List.set_cons_succ]
              refine take_one (i := 2) rfl (by kernel_rfl) (fun K hK => ?_)
              go_simp
              (refine hcl.mono ?_; rintro e z1 ⟨v1, rfl, hy1, hb1, hcl2⟩; clear hcl)
              try go_wp2_with fail
              refine hK.out _ _ ?_ (fun hHeld => ?_)
              · exact hy1
              clear hK K
              try simp only [Act.put, List.setIfInBounds_toArray, List.set_cons_zero, List.set_cons_succ]
              refine take_one (i := 5) rfl (by kernel_rfl) (fun K hK => ?_)
              go_simp
              (refine hcl2.mono ?_; rintro e z2 ⟨v2, rfl, hv1, hv2, hX2, hy2⟩; replace hal := hal z2 v1 v2 hv1 hv2; have hy3 := hX2.bel; clear hv1 hv2 hcl2)
              try go_wp2_with fail
              refine hK.out _ _ ?_ (fun hHeld => ?_)
              · exact hy2
              clear hK K
              try simp only [Act.put, List.setIfInBounds_toArray, List.set_cons_zero, List.set_cons_succ]
              refine take_one (i := 6) rfl (by kernel_rfl) (fun K hK => ?_)
              go_simp
              (refine hal.mono ?_; rintro e z3 ⟨rfl, hz3⟩; have hX3 := hX2.below hz3; clear hal)
              try go_wp2_with fail
              refine hK.out _ _ ?_ (fun hHeld => ?_)
              · exact (hz3.block _ hX2.lt).trans hy2
              clear hK K
              try simp only [Act.put, List.setIfInBounds_toArray, List.set_cons_zero, List.set_cons_succ]
              refine take_on (i := 7) (v := ?_) rfl rfl (by kernel_rfl) (by kernel_rfl) (by kernel_rfl) (fun _ _ _ h => h) rfl ?_ hHeld ?_
              rotate_left
              · (intro wq hSq; have xk := hSq.trans k0; have t0 := cell_of_row _ _ 0 _ _ _ xk; have t1 := cell_of_row _ _ 1 _ _ _ xk; have t2 := cell_of_row _ _ 2 _ _ _ xk; have t3 := cell_of_row _ _ 3 _ _ _ xk; have t4 := cell_of_row _ _ 4 _ _ _ xk; have t5 := cell_of_row _ _ 5 _ _ _ xk; go_simp <;> first | with_reducible rfl | rfl)
              simp only [Act.put, List.setIfInBounds_toArray, List.set_cons_zero, List.set_cons_succ]
              refine wpAnyH_done (by kernel_rfl) ?_ _
              have HY := hide_it hX3.duo
              clear hX2 hX3 hz3 hy1 hy2 hy3
              go_wp2
              go_roundw
              case rel => exact ⟨k + 1, V2, C2, by omega, by go_num, HY, HV2, HG1, HG2⟩
              case measure => simp [intOf]; omega
            · skip
              have q5 : (x.k == 5) = false := by simpa using hk
              have nk5 := hk
              clear hk
              by_cases hk : x.k = 6
              · skip
                have q6 : (x.k == 6) = true := by rw [hk]; rfl
                have q2 : (x.k == 2) = false := by rw [hk]; rfl
                have q5 : (x.k == 5) = false := by rw [hk]; rfl
                have q0 : (x.k == 0) = false := by rw [hk]; rfl
                have q1 : (x.k == 1) = false := by rw [hk]; rfl
                have q3 : (x.k == 3) = false := by rw [hk]; rfl
                have hl1 := hX.duo.len HFa
                have hvl := HV.out.len
                have hdu := hX.duo
                clear c0 c1 c2 c3 c4 c5 hrow hx hbW heach hX HD HFa HFb hnd HF1 HF2 HG1 HG2 hk
                go_wp2_with fail
                try rw [← hW]
                clear hW d0 d1 d2 d3 d4 d5
                refine hl1.mono ?_
                rintro e z1 ⟨rfl, hb1⟩
                have hd1 := hdu.below hb1
                have hl2 := hd1.swap.len (HG4.out.fine (by omega))
                have k1 := (hb1.block wr.heap.size (by omega)).trans k0
                have hs1 := hb1.size
                clear hl1 hdu hb1 t0 t2
                go_wp2_with fail
                refine hl2.mono ?_
                rintro e z2 ⟨rfl, hb2⟩
                have HY := hide_it (hd1.below hb2)
                have k2 := (hb2.block wr.heap.size (by omega)).trans k1
                have t0 := cell_of_row _ _ 0 _ _ _ k2
                have t2 := cell_of_row _ _ 2 _ _ _ k2
                clear hl2 hd1 hb2
                go_wp2
                go_roundw
                case rel => exact ⟨k + 1, V, C, by omega, by go_num, HY, HV, HG3, HG4⟩
                case measure => simp [intOf]; omega
              · skip
                have q6 : (x.k == 6) = false := by simpa using hk
                clear hk
                have HY := hide_it hX.duo
                clear c0 c1 c2 c3 c4 c5 hrow hx hbW heach hX HD HFa HFb hnd HF1 HF2 HG1 HG2
                go_wp2_with fail
                try rw [← hW]
                clear hW d0 d1 d2 d3 d4 d5
                go_wp2
                go_roundw
                case rel => exact ⟨k + 1, V, C, by omega, by go_num, HY, HV, HG3, HG4⟩
                case measure => simp [intOf]; omega
    · have hn1 : ¬ (k : Int) < (m : Int) := by omega
      have HB := hide_it (HB1.out.trans (HD.out.bel.mono HB1.out.size))
      clear HD HV HF1 HF2
      go_wp2
      go_ret
      exact ⟨rfl, HB.out⟩
end Go.Proofs.Ythaknohnccmfoaa.storeVacuum

namespace Go.Proofs.Ythaknohnccmfoaa
open Go.ChangeShapes Go.WideShapes Go.ChangeAt Go.RowKit Go.Joins Go.Deep

section
variable {H : Type} {enc : TypeId × Value → H} {W : World}
theorem len_bulk {t e : TypeId} (ht : Try.prog.underlying t = some (.slice e)) {a : Option Addr} {n cap : Nat} {d : DataW H} {p : List MemPlace} (h : DataW.Trod enc Try.prog W 0 (fun _ => true) true t (.slice a n cap) d p) (hk : Rows.uptoBulk d ≤ 1048576) : n ≤ 1048576 := by
  obtain ⟨fuel, hf⟩ := h
  rcases open_slice ht hf with ⟨hcs, hx⟩ | ⟨a1, len0, cap0, m, n1, D, Pl, hcs, h1, hl, h2, hm, hx, hall⟩
  · change [Value.slice a n cap] = _ at hcs
    cases hcs
    omega
  · change [Value.slice a n cap] = _ at hcs
    cases hcs
    have hd : d = _ := congrArg Prod.fst hx
    have h5 := bulk_len ((List.range n).map D)
    rw [hd] at hk
    simp only [Rows.uptoBulk] at hk
    rw [List.length_map, List.length_range] at h5
    omega
set_option maxRecDepth 100000 in
theorem open_VsnsU {base : Nat} {v : Value} {d : DataW H} {p : List MemPlace} (hok : Value.okWide Try.prog W .any base 23 v) (h : DataW.Trod enc Try.prog W 0 (fun _ => true) true 23 v d p)
    (hb : Fits Try.prog 23 d) (hk : Rows.uptoBulk d ≤ 1048576) : ∃ (a : Option Addr) (n cap : Nat) (T : Nat → Vsn), v = .slice a n cap ∧ CameVsn W a n T ∧ n ≤ 1048576 := by
  obtain ⟨a, n, cap, T, rfl, h2⟩ := open_Vsns hok h hb
  exact ⟨a, n, cap, T, rfl, h2, len_bulk Try.underlying23 h hk⟩
set_option maxRecDepth 100000 in
theorem open_StvsU {base : Nat} {v : Value} {d : DataW H} {p : List MemPlace} (hok : Value.okWide Try.prog W .any base 22 v) (h : DataW.Trod enc Try.prog W 0 (fun _ => true) true 22 v d p)
    (hb : Fits Try.prog 22 d) (hk : Rows.uptoBulk d ≤ 1048576) : ∃ (a : Option Addr) (n cap : Nat) (T : Nat → Stv), v = .slice a n cap ∧ CameStv W a n T ∧ n ≤ 1048576 := by
  obtain ⟨a, n, cap, T, rfl, h2⟩ := open_Stvs hok h hb
  exact ⟨a, n, cap, T, rfl, h2, len_bulk Try.underlying22 h hk⟩
end
end Go.Proofs.Ythaknohnccmfoaa

namespace Go.Proofs.Ythaknohnccmfoaa.storeVacuum
open Go.ChangeShapes Go.WideShapes Go.ChangeAt Go.RowKit
open Go.ChangeMaps (open_string shut_string)

set_option maxRecDepth 100000 in
theorem lifted (os : Os) (started : os.Started) (H : Type) (enc : TypeId × Value → H) (F : Stop.Interp) :
    ReturnsInHanded {} Try.checked os 6 .any ((Rows.OpenSpec.upto Rows.storeVacuumSpec).pre6 enc Try.prog Try.f6 Rows.storeVacuumUptoRow.domain false) (((Rows.OpenSpec.upto Rows.storeVacuumSpec).at F).post enc Try.prog Try.f6 false true false false) := by
  refine returnsInHanded_of_cond_sized (C := Try.checked) (s := Rows.OpenSpec.upto Rows.storeVacuumSpec) (k := Rows.uptoSmall) rfl own started (by kernel_rfl) Try.func6
    (OpenSpec.witness (enc := enc) (C := Try.checked) (s := Rows.OpenSpec.upto Rows.storeVacuumSpec) (k := Rows.uptoSmall) rfl false ⟨#[], #[.slice none 0 0, .int .i64 0, .slice none 0 0], []⟩ 8 (by kernel_rfl) (by kernel_rfl) (by kernel_rfl)
      (x := ([.nil, .lit (.int .i64 0), .nil], [], [])) (by kernel_rfl) rfl (by kernel_rfl)) ?_
  intro W base args ds gs before hval0 hW _ hk hsz0 _
  have hsz : (DataW.weightsEach Try.prog (Try.f6.params.toList ++ Rows.storeVacuumSpec.plain.varTypes Try.prog) (ds ++ gs)).all (· ≤ reachBytes) = true := hsz0
  clear hsz0
  have hval : ∀ (j : Nat) t v, Try.f6.params[j]? = some t → args[j]? = some v → Value.okWide Try.prog W .any base t v := hval0
  have hW' := hW
  obtain ⟨p, q, hA0, hV, rfl, _, _⟩ := hW
  have hA : DataW.TrodAll enc Try.prog W 0 (fun _ => true) true Try.f6.params.toList args.toList ds p := hA0
  rw [Try.params6] at hA hval hsz
  obtain ⟨v0, vs0, d0, ds0, p0, q0, hargs, rfl, rfl, h0, r0⟩ := trodAll_cons hA
  obtain ⟨v1, vs1, d1, ds1, p1, q1, rfl, rfl, rfl, h1, r1⟩ := trodAll_cons r0
  obtain ⟨v2, vs2, d2, ds2, p2, q2, rfl, rfl, rfl, h2, r2⟩ := trodAll_cons r1
  obtain ⟨rfl, rfl, rfl⟩ := trodAll_nil r2
  obtain rfl : args = #[v0, v1, v2] := by cases args; simp_all
  obtain ⟨rfl, rfl⟩ := trodVars_none hV
  have hkb : Rows.uptoBulkAll [d0, d1, d2] ≤ 1048576 := of_decide_eq_true hk
  have k0 := h0
  have lt0 : ∀ x ∈ p0, x.block < W.heap.size := by obtain ⟨m, hm⟩ := k0; exact DataW.trod_lt m _ _ _ hm
  have bd0 : Rows.uptoBulk d0 ≤ 1048576 := Nat.le_trans (bulk_mem (by simp)) hkb
  obtain ⟨a0, n0, c0, A0, rfl, s0⟩ := open_VsnsU (hval 0 23 v0 rfl rfl) h0 (fits_param hsz (j := 0) rfl rfl) bd0
  obtain ⟨n1, rfl, rfl, rfl, w1⟩ := open_int Try.underlying3 (hval 1 3 v1 rfl rfl) h1
  have k2 := h2
  have lt2 : ∀ x ∈ p2, x.block < W.heap.size := by obtain ⟨m, hm⟩ := k2; exact DataW.trod_lt m _ _ _ hm
  have bd2 : Rows.uptoBulk d2 ≤ 1048576 := Nat.le_trans (bulk_mem (by simp)) hkb
  obtain ⟨a2, n2, c2, A2, rfl, s2⟩ := open_StvsU (hval 2 22 v2 rfl rfl) h2 (fits_param hsz (j := 2) rfl rfl) bd2
  clear hA0 hval0
  refine (walk a0 n0 c0 A0 n1 (bounds_i64 w1) a2 n2 c2 A2 W s0.1 s0.2 s2.1 s2.2).mono fun e W' ⟨he, bel⟩ => ?_
  subst he
  exact ⟨_, rfl, _, _, _, [], _, [], hW', trodAll_mk1 (shut_bool Try.underlying4 _), (trodAll_cons_mk (Below.trod laidOut (by kernel_rfl) (of_decide_eq_true (by kernel_rfl)) k0 bel lt0) (trodAll_cons_mk (shut_int Try.underlying3 w1) (trodAll_cons_mk (Below.trod laidOut (by kernel_rfl) (of_decide_eq_true (by kernel_rfl)) k2 bel lt2) trodAll_mk0))), rfl, bel.frame _, fun h => by cases h⟩

theorem over : Rows.StoreVacuumUptoSaid :=
  OpenClaim.holds_of_cond 6 Try.f6 rfl rfl rfl rfl rfl rfl rfl ⟨rfl, rfl, rfl, rfl, rfl⟩ rfl rfl rfl rfl rfl (by kernel_rfl) Try.func6 (by kernel_rfl)
    (of_decide_eq_true (by kernel_rfl)) (by unfold Func.isWrapper; first | (rw [if_pos (by decide +kernel)]; kernel_rfl) | (rw [if_neg (by decide +kernel)]; exact ⟨rfl, rfl⟩))
    (fun os started H enc _ F => lifted os started H enc F)

end Go.Proofs.Ythaknohnccmfoaa.storeVacuum

namespace Go.Proofs.Ythaknohnccmfoaa
theorem storeVacuum_upto_holds : Rows.StoreVacuumUptoSaid := storeVacuum.over
#print axioms storeVacuum_upto_holds
end Go.Proofs.Ythaknohnccmfoaa
