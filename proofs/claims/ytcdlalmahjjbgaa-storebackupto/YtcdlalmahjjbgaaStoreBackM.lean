/- Load, walked. A store's versions, loaded, are the store. The law on a store of a store's versions, walked. Opening lists of versions and of steps of bulk at most 1048576. The statement about StoreBack, proved where what comes in is of bulk at most 1048576: the law answers true and leaves its arguments as they were. -/
import Derived.Test.YtcdlalmahjjbgaaSo32
import Derived.Test.YtcdlalmahjjbgaaOpenVsn
import Derived.Test.YtcdlalmahjjbgaaOpenStv
import Derived.Test.YtcdlalmahjjbgaaBulk
import Derived.Test.YtcdlalmahjjbgaaOpenB
import Derived.Deep.CondSized
namespace Go.Proofs.Ytcdlalmahjjbgaa
open Go.RowKit Go.Maps

/-- What a store is that takes versions as long as they are taken, and the first error. -/
def loadA (A : Cont) : List Vn → Cont × Int
  | [] => (A, 0)
  | y :: r => if applyE A y = 0 then loadA (applyA A y) r else (A, applyE A y)
theorem Fil.appV {w z : World} {s : Nat} {A : Cont} (h : Fil w z s A) (hf : Fine A) (y : Vn) (hy : VnOk w y) : Calls Try.prog 24 #[.pointer (some ⟨s, 0, none⟩), verV y] z fun e z' => e = .returned (.int .i64 (applyE A y)) ∧ Fil w z' s (applyA A y) := by
  obtain ⟨F, mb, M, hs, rfl, hl⟩ := h.st
  refine (apply_any hs y (hy.below h.bel) (fun b o h0 e hb => by
    have h1 := hl b hb
    rcases hy.row with h2 | ⟨b2, o2, e2, h3, _⟩
    · omega
    · rw [e] at e2; cases e2; omega) hf.tot (by have := hf.keys; simpa [abs] using this)).mono ?_
  rintro e z' ⟨rfl, h2⟩
  obtain ⟨mb', M', q1, q2⟩ := h2.st
  refine ⟨rfl, ⟨_, mb', M', q1, q2, fun j hj => ?_⟩, h.bel.trans (h2.chg.below hl h.bel.size)⟩
  rcases hj with hj | hj
  · exact hl j hj
  · exact Nat.le_trans h.bel.size hj.1
/-- A row of versions that can be read. -/
def RowN (w : World) (a : Option Addr) (ys : List Vn) : Prop := ys.length = 0 ∨ ∃ b o, a = some ⟨b, o, none⟩ ∧ b < w.heap.size ∧ ∀ i, i < ys.length → w.cell? ⟨b, o + i * 4, none⟩ = some (.string (vn ys i).k) ∧ w.cell? ⟨b, o + i * 4 + 1, none⟩ = some (.int .i64 (vn ys i).n) ∧ w.cell? ⟨b, o + i * 4 + 2, none⟩ = some (.slice (vn ys i).a (vn ys i).z.length (vn ys i).c) ∧ w.cell? ⟨b, o + i * 4 + 3, none⟩ = some (.bool (vn ys i).d)

set_option maxRecDepth 100000 in
set_option maxHeartbeats 4000000 in
theorem load_any (a : Option Addr) (c : Nat) (ys : List Vn) (w : World) (hr : RowN w a ys) (hl : ys.length ≤ 4000000000000) (hok : ∀ i, i < ys.length → VnOk w (vn ys i)) :
    Calls Try.prog 20 #[.slice a ys.length c] w fun e w' => (((loadA [] ys).2 = 0 ∧ e = .returned (.tuple #[.pointer (some ⟨w.heap.size, 0, none⟩), .int .i64 0]) ∧ Fil w w' w.heap.size (loadA [] ys).1 ∧ FineK (loadA [] ys).1 ys.length) ∨ ((loadA [] ys).2 ≠ 0 ∧ e = .returned (.tuple #[.pointer none, .int .i64 (loadA [] ys).2]))) ∧ Below w.heap.size w w' := by
  have hnew := new_any w
  obtain ⟨V1, hV1⟩ : ∃ W, W = w.alloc (.cells #[.map none] 59) := ⟨_, rfl⟩
  have hF0 : Fil w V1 w.heap.size [] := by
    rw [hV1]
    exact ⟨⟨_, none, [], sto_new w, rfl, fun j hj => Nat.le_of_eq hj.symm⟩, (Below.refl _ _).alloc (Nat.le_refl _) _⟩
  rw [← hV1] at hnew
  obtain ⟨N, hN⟩ : ∃ N, N = ys.length := ⟨_, rfl⟩
  have HF0 := hide_it hF0
  have HR := hide_it hr
  have HOK := hide_it hok
  have HN := hide_it hN
  rw [← hN] at hl ⊢
  clear hF0 hV1 hr hok hN
  go_enter Try.func20, Try.ntmps20
  go_wp2_with fail
  refine hnew.mono ?_
  rintro e w1 ⟨rfl, hw1⟩
  obtain rfl := hw1.symm
  clear hnew hw1
  go_wp2_with fail
  go_loopw [11, 6, 7] (fun i _ _ wr => ∃ (k : Nat) (A : Cont), k ≤ N ∧ i = .int .i64 (k : Int) ∧ Hid (Fil w wr w.heap.size A) ∧ Hid (FineK A k) ∧ Hid (loadA [] ys = loadA A (ys.drop k))) (fun i _ _ _ => N - (intOf i).toNat)
  case atStart => exact ⟨0, [], by omega, rfl, HF0, hide_it FineK.nil, hide_it rfl⟩
  case round =>
    clear HF0
    obtain ⟨k, A, hk, rfl, HD, HF, HL⟩ := hrel
    by_cases hlt : k < N
    · have hki : (k : Int) < (N : Int) := by omega
      have hw1 : IntKind.i64.wrap ((k : Int) + 1) = (k : Int) + 1 := i64_in (by omega) (by omega)
      have hky : k < ys.length := by rw [← HN.out]; exact hlt
      obtain ⟨b2, o2, rfl, l2, hc⟩ : ∃ b o, a = some ⟨b, o, none⟩ ∧ b < w.heap.size ∧ ∀ i, i < ys.length → _ := by
        rcases HR.out with h0 | h0
        · omega
        · exact h0
      obtain ⟨c0, c1, c2, c3⟩ := hc k hky
      have d0 := (HD.out.bel.cell (p := ⟨b2, o2 + k * 4, none⟩) l2).trans c0
      have d1 := (HD.out.bel.cell (p := ⟨b2, o2 + k * 4 + 1, none⟩) l2).trans c1
      have d2 := (HD.out.bel.cell (p := ⟨b2, o2 + k * 4 + 2, none⟩) l2).trans c2
      have d3 := (HD.out.bel.cell (p := ⟨b2, o2 + k * 4 + 3, none⟩) l2).trans c3
      have hx := HOK.out k hky
      have hdr : ys.drop k = vn ys k :: ys.drop (k + 1) := by rw [List.drop_eq_getElem_cons hky, vn_get hky]
      have hld : loadA [] ys = if applyE A (vn ys k) = 0 then loadA (applyA A (vn ys k)) (ys.drop (k + 1)) else (A, applyE A (vn ys k)) := by rw [HL.out, hdr]; rfl
      generalize vn ys k = y at *
      have HN2 := hide_it (applyA_fine HF.out HD.out.nodup y)
      have hfin := HF.out.fine (show k ≤ 4000000000000 by omega)
      obtain ⟨W, hW⟩ : ∃ W, W = wr.alloc (.cells #[.string y.k, .int .i64 y.n, .slice y.a y.z.length y.c, .bool y.d] 30) := ⟨_, rfl⟩
      have hbW : Below wr.heap.size wr W := by rw [hW]; exact (Below.refl _ _).alloc (Nat.le_refl _) _
      have hap := (HD.out.below hbW).appV hfin y hx
      unfold verV at hap
      by_cases h0 : applyE A y = 0
      · rw [if_pos h0] at hld
        rw [h0] at hap
        have HLD := hide_it hld
        clear c0 c1 c2 c3 hc hx hbW HD HF HL hfin hdr hld h0
        go_wp2_with fail
        rw [← hW]
        clear hW d0 d1 d2 d3
        refine hap.mono ?_
        rintro e z1 ⟨rfl, hD⟩
        have HY := hide_it hD
        clear hap hD
        go_wp2
        go_roundw
        case rel => exact ⟨k + 1, _, by omega, by go_num, HY, HN2, HLD⟩
        case measure => simp [intOf]; omega
      · rw [if_neg h0] at hld
        have HLD := hide_it hld
        have hq : (applyE A y == 0) = false := by simpa using h0
        have H0 := hide_it h0
        generalize applyE A y = E at *
        clear c0 c1 c2 c3 hc hx hbW HD HF HL hfin hdr hld h0
        go_wp2_with fail
        rw [← hW]
        clear hW d0 d1 d2 d3
        refine hap.mono ?_
        rintro e z1 ⟨rfl, hD⟩
        have HY := hide_it hD.bel
        clear hap hD
        go_wp2
        refine bodyPost_ret (v := .tuple #[.pointer none, .int .i64 E]) (by simp [results, Try.results20, go_sem]) rfl ⟨.inr ?_, HY.out⟩
        rw [HLD.out]; exact ⟨H0.out, rfl⟩
    · have hn1 : ¬ (k : Int) < (N : Int) := by omega
      have hkn : k = ys.length := by have := HN.out; omega
      have hld : loadA [] ys = (A, 0) := by rw [HL.out, hkn, List.drop_length]; rfl
      have HLD := hide_it hld
      have hF2 := HF.out.mono hk
      have HF2 := hide_it hF2
      clear hkn hld hF2 HL HF
      go_wp2
      refine bodyPost_ret (v := .tuple #[.pointer (some ⟨w.heap.size, 0, none⟩), .int .i64 0]) (by simp [results, Try.results20, go_sem]) rfl ⟨.inl ?_, HD.out.bel⟩
      rw [HLD.out]; exact ⟨rfl, rfl, HD.out, HF2.out⟩

end Go.Proofs.Ytcdlalmahjjbgaa

namespace Go.Proofs.Ytcdlalmahjjbgaa
open Go.RowKit Go.Maps
open Go.WideAt (bytes_irrefl)
open Go.WideShapes (bytes_trans)

/-- A version that a store takes, but for its place. -/
def checkT (k : List UInt8) (l : Ver) : Prop := ¬ (k.length < 1 ∨ 255 < k.length) ∧ ¬ (4096 < l.b.length ∨ (l.d = true ∧ 0 < l.b.length)) ∧ ¬ (l.n < 0 ∨ 4611686018427387904 < l.n)
theorem check_iff (x : Vn) : checkE x = 0 ↔ checkT x.k.data.toList (verOf x) := by
  have hs : x.k.data.toList.length = x.k.size := by rw [Array.length_toList]; rfl
  unfold checkE checkT
  rw [hs]
  show _ ↔ ¬ (x.k.size < 1 ∨ 255 < x.k.size) ∧ ¬ (4096 < x.z.length ∨ (x.d = true ∧ 0 < x.z.length)) ∧ ¬ (x.n < 0 ∨ 4611686018427387904 < x.n)
  by_cases h1 : x.k.size < 1 ∨ 255 < x.k.size
  · rw [if_pos h1]; exact ⟨fun h => (by cases h), fun h => absurd h1 h.1⟩
  · rw [if_neg h1]
    by_cases h2 : 4096 < x.z.length ∨ (x.d = true ∧ 0 < x.z.length)
    · rw [if_pos h2]; exact ⟨fun h => (by cases h), fun h => absurd h2 h.2.1⟩
    · rw [if_neg h2]
      by_cases h3 : x.n < 0 ∨ 4611686018427387904 < x.n
      · rw [if_pos h3]; exact ⟨fun h => (by cases h), fun h => absurd h3 h.2.2⟩
      · rw [if_neg h3]; exact ⟨fun _ => ⟨h1, h2, h3⟩, fun _ => rfl⟩
/-- What is known of every key of a store that was filled. -/
structure GoodA (A : Cont) : Prop where
  ne : ∀ e ∈ A, e.2 ≠ []
  st : ∀ e ∈ A, e.2.Pairwise fun l m => l.n < m.n
  ok : ∀ e ∈ A, ∀ l ∈ e.2, checkT e.1 l
theorem GoodA.nil : GoodA [] := ⟨(fun e h => by cases h), (fun e h => by cases h), (fun e h => by cases h)⟩
theorem last_most {ls : List Ver} (h : ls.Pairwise fun l m => l.n < m.n) : ∀ a ∈ ls, a.n ≤ (vr ls (ls.length - 1)).n := fun a ha => by
  obtain ⟨i, hi, rfl⟩ := List.mem_iff_getElem.1 ha
  rw [← vr_get (show ls.length - 1 < ls.length by omega)]
  by_cases h1 : i = ls.length - 1
  · subst h1; exact Int.le_refl _
  · exact Int.le_of_lt (List.pairwise_iff_getElem.1 h i (ls.length - 1) hi (by omega) (by omega))
theorem snoc_rise {ls : List Ver} {l : Ver} (h : ls.Pairwise fun l m => l.n < m.n) (hl : ¬ lowV ls l.n) : (ls ++ [l]).Pairwise fun l m => l.n < m.n := by
  refine List.pairwise_append.2 ⟨h, List.pairwise_singleton _ _, fun a ha b hb => ?_⟩
  obtain rfl := List.mem_singleton.1 hb
  have h1 := last_most h a ha
  have h2 : 0 < ls.length := List.length_pos_of_mem ha
  unfold lowV at hl
  have : ¬ b.n ≤ (vr ls (ls.length - 1)).n := fun h3 => hl ⟨h2, h3⟩
  omega
theorem mem_setA {B : Cont} {k : List UInt8} {ls : List Ver} {e : List UInt8 × List Ver} (h : e ∈ setA B k ls) : e = (k, ls) ∨ (e ∈ B ∧ e.1 ≠ k) := by
  unfold setA at h
  obtain ⟨f, hf, h2⟩ := List.mem_map.1 h
  by_cases h3 : (f.1 == k) = true
  · rw [if_pos h3] at h2
    have : f.1 = k := by simpa using h3
    exact .inl (by rw [← h2, this])
  · rw [if_neg h3] at h2
    subst h2
    exact .inr ⟨hf, by simpa using h3⟩
theorem good_apply {A : Cont} (h : GoodA A) (x : Vn) : GoodA (applyA A x) := by
  unfold applyA
  split
  · rename_i h0
    have hc : checkE x = 0 ∧ ¬ lowV (lsOf A x.k.data.toList) x.n := by
      unfold applyE at h0
      split at h0
      · rename_i h1; exact absurd h0 h1
      · rename_i h1
        split at h0
        · cases h0
        · rename_i h2; exact ⟨by simpa using h1, h2⟩
    have hm : ∀ e ∈ addA A x.k.data.toList (verOf x), e = (x.k.data.toList, lsOf A x.k.data.toList ++ [verOf x]) ∨ e ∈ A := fun e he => by
      unfold addA at he
      rcases mem_setA he with h1 | ⟨h1, h2⟩
      · exact .inl h1
      · right
        split at h1
        · exact h1
        · rcases mem_insA h1 with h3 | h3
          · rw [h3] at h2; exact absurd rfl h2
          · exact h3
    refine ⟨fun e he => ?_, fun e he => ?_, fun e he l hl => ?_⟩
    · rcases hm e he with rfl | h1
      · simp
      · exact h.ne e h1
    · rcases hm e he with rfl | h1
      · refine snoc_rise ?_ hc.2
        rcases lsOf_in (A := A) (k := x.k.data.toList) with h2 | ⟨f, hf, _, h2⟩
        · rw [h2]; exact List.Pairwise.nil
        · rw [← h2]; exact h.st f hf
      · exact h.st e h1
    · rcases hm e he with rfl | h1
      · rcases List.mem_append.1 hl with h2 | h2
        · rcases lsOf_in (A := A) (k := x.k.data.toList) with h3 | ⟨f, hf, h4, h3⟩
          · rw [h3] at h2; cases h2
          · rw [← h3] at h2
            have := h.ok f hf l h2
            rwa [h4] at this
        · obtain rfl := List.mem_singleton.1 h2
          exact (check_iff x).1 hc.1
      · exact h.ok e h1 l hl
  · exact h
theorem loadA_cons (A : Cont) (y : Vn) (r : List Vn) : loadA A (y :: r) = if applyE A y = 0 then loadA (applyA A y) r else (A, applyE A y) := rfl
theorem loadA_append (A : Cont) (xs ys : List Vn) : loadA A (xs ++ ys) = if (loadA A xs).2 = 0 then loadA (loadA A xs).1 ys else loadA A xs := by
  induction xs generalizing A with
  | nil => simp [loadA]
  | cons x r ih =>
    rw [List.cons_append, loadA_cons, loadA_cons]
    by_cases h : applyE A x = 0
    · rw [if_pos h, if_pos h]; exact ih _
    · rw [if_neg h, if_neg h, if_neg h]
theorem setA_snoc {A : Cont} {k : List UInt8} {x ls : List Ver} (h : ∀ f ∈ A, f.1 ≠ k) : setA (A ++ [(k, x)]) k ls = A ++ [(k, ls)] := by
  unfold setA
  rw [List.map_append]
  congr 1
  · have h1 : ∀ f ∈ A, (if (f.1 == k) = true then (f.1, ls) else f) = f := fun f hf => if_neg (by simpa using h f hf)
    rw [List.map_congr_left h1]; simp
  · simp
theorem lsOf_snoc {A : Cont} {k : List UInt8} {x : List Ver} (h : ∀ f ∈ A, f.1 ≠ k) : lsOf (A ++ [(k, x)]) k = x := by
  unfold lsOf
  have h1 : A.find? (fun e => e.1 == k) = none := List.find?_eq_none.2 fun e he h2 => h e he (by simpa using h2)
  rw [List.find?_append, h1]
  simp
theorem insA_snoc {A : Cont} {k : List UInt8} (h : ∀ f ∈ A, bytesBefore f.1 k = true) : insA k A = A ++ [(k, [])] := by
  induction A with
  | nil => rfl
  | cons f r ih =>
    unfold insA
    have h1 := h f (List.mem_cons_self ..)
    have h2 : ¬ bytesBefore k f.1 = true := fun h3 => by
      have := bytes_trans _ _ _ h1 h3
      rw [bytes_irrefl] at this; cases this
    rw [if_neg h2, ih fun g hg => h g (List.mem_cons_of_mem _ hg)]; rfl
/-- One key's versions, loaded behind what lies before. -/
theorem load_key {A : Cont} {k : List UInt8} (h : ∀ f ∈ A, bytesBefore f.1 k = true) : ∀ (ls2 ls1 : List Ver) (ys : List Vn), saysV ys = ls2.map (fun l => (k, l)) → (ls1 ++ ls2).Pairwise (fun l m => l.n < m.n) → (∀ l ∈ ls2, checkT k l) →
    loadA (if ls1 = [] then A else A ++ [(k, ls1)]) ys = (if ls1 ++ ls2 = [] then A else A ++ [(k, ls1 ++ ls2)], 0)
  | [], ls1, ys, hs, _, _ => by
    have : ys = [] := by
      cases ys with
      | nil => rfl
      | cons y r => cases hs
    subst this
    rw [List.append_nil]; rfl
  | l :: t, ls1, ys, hs, hp, hc => by
    have hne : ∀ f ∈ A, f.1 ≠ k := fun f hf e => by
      have := h f hf
      rw [e, bytes_irrefl] at this; cases this
    cases ys with
    | nil => cases hs
    | cons y r =>
      unfold saysV at hs
      rw [List.map_cons, List.map_cons, List.cons.injEq, Prod.mk.injEq] at hs
      obtain ⟨⟨hk, hv⟩, hr⟩ := hs
      have hls : lsOf (if ls1 = [] then A else A ++ [(k, ls1)]) k = ls1 := by
        split
        · rename_i h1
          rw [h1]
          refine lsOf_has ?_
          unfold hasK
          rw [List.any_eq_false]
          exact fun e he h2 => hne e he (by simpa using h2)
        · exact lsOf_snoc hne
      have he : applyE (if ls1 = [] then A else A ++ [(k, ls1)]) y = 0 := by
        unfold applyE
        have h1 : checkE y = 0 := (check_iff y).2 (by rw [hk, hv]; exact hc l (List.mem_cons_self ..))
        rw [if_neg (by rw [h1]; simp), hk, hls]
        refine if_neg fun hlow => ?_
        have h2 := (List.pairwise_append.1 hp).2.2 (vr ls1 (ls1.length - 1)) (vr_mem (by have := hlow.1; omega)) l (List.mem_cons_self ..)
        have h3 : y.n = l.n := congrArg Ver.n hv
        have := hlow.2
        omega
      have ha : applyA (if ls1 = [] then A else A ++ [(k, ls1)]) y = if ls1 ++ [l] = [] then A else A ++ [(k, ls1 ++ [l])] := by
        unfold applyA addA
        rw [if_pos he, hk, hv, hls, if_neg (show ¬ ls1 ++ [l] = [] by simp)]
        by_cases h1 : ls1 = []
        · have h2 : hasK A k = false := by
            unfold hasK
            rw [List.any_eq_false]
            exact fun e he h2 => hne e he (by simpa using h2)
          rw [if_pos h1, h2, if_neg (by simp), insA_snoc h, setA_snoc hne]
        · have h2 : hasK (A ++ [(k, ls1)]) k = true := by
            unfold hasK; rw [List.any_append]; simp
          rw [if_neg h1, h2, if_pos rfl, setA_snoc hne]
      unfold loadA
      rw [if_pos he, ha, load_key h t (ls1 ++ [l]) r hr (by rw [List.append_assoc]; exact hp) fun m hm => hc m (List.mem_cons_of_mem _ hm), List.append_assoc]
      rfl
theorem load_from : ∀ (A2 A1 : Cont) (ys : List Vn), GoodA A2 → (A1 ++ A2).Pairwise (fun e f => bytesBefore e.1 f.1 = true) → saysV ys = versA A2 → loadA A1 ys = (A1 ++ A2, 0)
  | [], A1, ys, _, _, hs => by
    have : ys = [] := by
      cases ys with
      | nil => rfl
      | cons y r => cases hs
    subst this
    rw [List.append_nil]; rfl
  | e :: r, A1, ys, hg, hp, hs => by
    have hs2 : saysV ys = e.2.map (fun l => (e.1, l)) ++ versA r := by rw [hs]; unfold versA; rw [List.flatMap_cons]
    unfold saysV at hs2
    obtain ⟨ys1, ys2, rfl, h1, h2⟩ := List.map_eq_append_iff.1 hs2
    have hk := load_key (A := A1) (k := e.1) (fun f hf => (List.pairwise_append.1 hp).2.2 f hf e (List.mem_cons_self ..)) e.2 [] ys1 h1 (hg.st e (List.mem_cons_self ..)) (hg.ok e (List.mem_cons_self ..))
    rw [if_pos rfl, List.nil_append, if_neg (hg.ne e (List.mem_cons_self ..))] at hk
    rw [loadA_append, hk, if_pos rfl]
    have := load_from r (A1 ++ [e]) ys2 ⟨fun f hf => hg.ne f (List.mem_cons_of_mem _ hf), fun f hf => hg.st f (List.mem_cons_of_mem _ hf), fun f hf => hg.ok f (List.mem_cons_of_mem _ hf)⟩ (by rw [List.append_assoc]; exact hp) h2
    rw [List.append_assoc] at this
    exact this
theorem load_back {A : Cont} {ys : List Vn} (hg : GoodA A) (hp : A.Pairwise fun e f => bytesBefore e.1 f.1 = true) (hs : saysV ys = versA A) : loadA [] ys = (A, 0) := load_from A [] ys hg hp hs
theorem good_fil (A : Nat → Vsn) : ∀ n, GoodA (filA A n)
  | 0 => GoodA.nil
  | n + 1 => good_apply (good_fil A n) _

end Go.Proofs.Ytcdlalmahjjbgaa

namespace Go.Proofs.Ytcdlalmahjjbgaa.storeBack
open Go.RowKit Go.Maps

theorem td_fineAll {A : Cont} (h : Fine A) (x : Stv) : TdFine (tdA A x) := by
  by_cases h1 : x.k = 1 ∨ x.k = 3
  · exact td_fineS h x h1
  by_cases h0 : x.k = 0 ∨ x.k = 1 ∨ x.k = 2
  · exact td_fine h x h0
  have hz : ∀ (e n m : Int) (is : Bool), TdFine ⟨e, n, m, is, [], [], []⟩ := fun e n m is => ⟨Nat.zero_le _, Nat.zero_le _, (fun y hy => by cases hy), Nat.zero_le _, fun y hy => by cases hy⟩
  unfold tdA
  rw [if_neg (by omega), if_neg (by omega), if_neg (by omega), if_neg (by omega)]
  split
  · exact hz _ _ _ _
  · split
    · exact hz _ _ _ _
    · split
      · exact hz _ _ _ _
      · split
        · refine ⟨Nat.zero_le _, Nat.zero_le _, (fun y hy => by cases hy), by rw [versA_len]; exact h.tot, fun y hy => ?_⟩
          obtain ⟨e, he, h2⟩ := List.mem_flatMap.1 hy
          obtain ⟨l, hl, rfl⟩ := List.mem_map.1 h2
          exact h.vl e he l hl
        · exact hz _ _ _ _
theorem fil_vers {w z : World} {s : Nat} {A : Cont} (h : Fil w z s A) (hf : Fine A) : Calls Try.prog 15 #[.pointer (some ⟨s, 0, none⟩)] z fun e z' => ∃ a n c ys, e = .returned (.slice a n c) ∧ n = ys.length ∧ RowV z' (.slice a n c) ys ∧ saysV ys = versA A ∧ Below z.heap.size z z' := by
  obtain ⟨F, mb, M, hs, rfl, _⟩ := h.st
  refine (versions_any hs hf).mono ?_
  rintro e z' ⟨⟨v, ys, rfl, ho, hv, hsy⟩, hb⟩
  obtain ⟨a, c, rfl, _⟩ := OwnS.open ho
  exact ⟨a, _, c, ys, rfl, rfl, ⟨OwnS.mono ho (Nat.zero_le _), fun y hy => (hv y hy).mono (Nat.zero_le _)⟩, hsy, hb⟩
theorem fil_rise {w z : World} {s : Nat} {A : Cont} (h : Fil w z s A) : A.Pairwise fun e f => bytesBefore e.1 f.1 = true := by
  obtain ⟨F, mb, M, hs, rfl, _⟩ := h.st
  exact List.pairwise_map.2 hs.rise
theorem rowN_of {w : World} {a : Option Addr} {c : Nat} {ys : List Vn} (h : RowV w (.slice a ys.length c) ys) : RowN w a ys := by
  by_cases h0 : ys.length = 0
  · exact .inl h0
  · obtain ⟨g, o, cap, e, hg, _, _⟩ := h.here (i := 0) (by omega)
    cases e
    refine .inr ⟨g, o, rfl, hg, fun i hi => ?_⟩
    obtain ⟨g2, o2, c2, e2, _, _, p⟩ := h.here hi
    cases e2; exact p
theorem vnOk_of {w : World} {v : Value} {ys : List Vn} {A : Cont} (h : RowV w v ys) (hf : Fine A) (hg : GoodA A) (hs : saysV ys = versA A) : ∀ i, i < ys.length → VnOk w (vn ys i) := fun i hi => by
  have hm : vn ys i ∈ ys := by rw [← vn_get hi]; exact List.getElem_mem hi
  have h1 : ((vn ys i).k.data.toList, verOf (vn ys i)) ∈ versA A := by rw [← hs]; exact List.mem_map.2 ⟨_, hm, rfl⟩
  obtain ⟨e, he, h2⟩ := List.mem_flatMap.1 h1
  obtain ⟨l, hl, h3⟩ := List.mem_map.1 h2
  have h4 : l = verOf (vn ys i) := (Prod.mk.inj h3).2
  have h5 : e.1 = (vn ys i).k.data.toList := (Prod.mk.inj h3).1
  have hc := hg.ok e he l hl
  have hkl := hf.kl e he
  have hbl := hf.vl e he l hl
  rw [h5] at hkl
  rw [h4] at hc hbl
  have hks : (vn ys i).k.data.toList.length = (vn ys i).k.size := by rw [Array.length_toList]; rfl
  obtain ⟨a2, c2, e2, hr2, _, _, hn2⟩ := (h.val _ hm).row
  injection e2 with q1 q2 q3
  have hz : (vn ys i).z.length ≤ 4096 := hbl
  refine ⟨by unfold maxLen; omega, ?_, by rw [q1]; exact hr2, fun e9 => ?_, by omega⟩
  · have := hc.2.2
    have hn : (verOf (vn ys i)).n = (vn ys i).n := rfl
    rw [hn] at this
    omega
  · rw [q1] at e9; rw [q3]; exact hn2 e9

set_option maxRecDepth 100000 in
set_option maxHeartbeats 4000000 in
theorem walk (a : Option Addr) (n c : Nat) (A : Nat → Vsn) (b : Option Addr) (m cb : Nat) (B : Nat → Stv) (w : World) (ha : CameVsn w a n A) (hn2 : n ≤ 1048576) (hb : CameStv w b m B) (hm2 : m ≤ 1048576) :
    Calls Try.prog 8 #[.slice a n c, .slice b m cb] w fun e w' => e = .returned (.bool true) ∧ Below w.heap.size w w' := by
  have hrow := hb.row
  have heach := hide_it hb.each
  have hfx := fixed_any w
  have HA := hide_it ha
  clear ha hb
  go_enter Try.func8, Try.ntmps8
  go_wp2_with fail
  refine hfx.mono ?_
  rintro e w1 ⟨rfl, hb1⟩
  have HB1 := hide_it hb1
  have hf1 := filled_any a n c A w1 (HA.out.below hb1)
  clear hfx hb1
  go_wp2_with fail
  refine hf1.mono ?_
  rintro e w2 ⟨rfl, hF1, hK1⟩
  obtain ⟨s1, hs1⟩ : ∃ s, s = w1.heap.size := ⟨_, rfl⟩
  obtain ⟨C, hC⟩ : ∃ C, C = filA A n := ⟨_, rfl⟩
  have hgood : GoodA C := by rw [hC]; exact good_fil A n
  rw [← hs1, ← hC] at hF1
  rw [← hC] at hK1
  rw [← hs1]
  have hfin := hK1.fine (by omega)
  have hve := fil_vers hF1 hfin
  have HF1 := hide_it hF1
  have HK1 := hide_it hK1
  have HG := hide_it hgood
  have HC := hide_it hfin
  clear hf1 hF1 hK1 hgood hfin hs1 hC HA
  go_wp2_with fail
  refine hve.mono ?_
  rintro e w3 ⟨a9, N, c9, ys, rfl, hN, hr9, hs9, hb9⟩
  have hys := vers_len HC.out hs9
  rw [hN] at hr9
  have hlo := load_any a9 c9 ys w3 (rowN_of hr9) hys (vnOk_of hr9 HC.out HG.out hs9)
  rw [load_back HG.out (fil_rise HF1.out) hs9] at hlo
  rw [← hN] at hlo
  have HF3 := hide_it (HF1.out.below hb9)
  clear hve hr9 hs9 hb9 HF1 HG hys hN
  go_wp2_with fail
  refine hlo.mono ?_
  intro e w4 h44
  have hb4 := h44.2
  have hF2 : e = .returned (.tuple #[.pointer (some ⟨w3.heap.size, 0, none⟩), .int .i64 0]) ∧ Fil w3 w4 w3.heap.size C := by
    rcases h44.1 with h9 | h9
    · exact ⟨h9.2.1, h9.2.2.1⟩
    · exact absurd rfl h9.1
  obtain ⟨rfl, hF2⟩ := hF2
  clear h44
  obtain ⟨s2, hs2⟩ : ∃ s, s = w3.heap.size := ⟨_, rfl⟩
  rw [← hs2] at hF2
  rw [← hs2]
  have HD0 := hide_it (duo_fil HF3.out hF2)
  clear hlo hF2 hb4 HF3 hs2 HC
  go_wp2_with fail
  go_loopw [24, 9] (fun i _ wr => ∃ (k : Nat) (D : Cont), k ≤ m ∧ i = .int .i64 (k : Int) ∧ Hid (Duo w1 wr s1 s2 D D) ∧ Hid (FineK D (n + k))) (fun i _ _ => m - (intOf i).toNat)
  case atStart => exact ⟨0, C, by omega, rfl, HD0, HK1⟩
  case round =>
    clear HD0 HK1
    obtain ⟨k, D, hk, rfl, HD, HF⟩ := hrel
    by_cases hlt : k < m
    · have hki : (k : Int) < (m : Int) := by omega
      have hw1 : IntKind.i64.wrap ((k : Int) + 1) = (k : Int) + 1 := i64_in (by omega) (by omega)
      have hbwr := HB1.out.trans (HD.out.bel.mono HB1.out.size)
      obtain ⟨b2, o2, rfl, l2, c0, c1, c2, c3, c4, c5⟩ := hrow.here hlt
      have d0 := (hbwr.cell (p := ⟨b2, o2 + k * 6, none⟩) l2).trans c0
      have d1 := (hbwr.cell (p := ⟨b2, o2 + k * 6 + 1, none⟩) l2).trans c1
      have d2 := (hbwr.cell (p := ⟨b2, o2 + k * 6 + 2, none⟩) l2).trans c2
      have d3 := (hbwr.cell (p := ⟨b2, o2 + k * 6 + 3, none⟩) l2).trans c3
      have d4 := (hbwr.cell (p := ⟨b2, o2 + k * 6 + 4, none⟩) l2).trans c4
      have d5 := (hbwr.cell (p := ⟨b2, o2 + k * 6 + 5, none⟩) l2).trans c5
      have hx := (heach.out k hlt).below HB1.out
      clear hbwr
      generalize B k = x at *
      obtain ⟨W, hW⟩ : ∃ W, W = wr.alloc (boxX x) := ⟨_, rfl⟩
      have hbW : Below wr.heap.size wr W := by rw [hW]; exact (Below.refl _ _).alloc (Nat.le_refl _) _
      have hzW : W.heap.size = wr.heap.size + 1 := by rw [hW]; simp
      have k0 : W.heap[wr.heap.size]? = some (.cells #[.int .i64 x.k, .string x.key, .int .i64 x.stamp, .slice x.val.a x.val.p.length x.val.c, .bool x.dead, .string x.to] 32 (0, 0)) := by rw [hW]; exact heap_alloc_new wr _
      have hX := HD.out.x hbW (by omega)
      have hfin := HF.out.fine (by omega)
      have hcl := (hX.below ((Below.refl _ _).drew)).bothS hfin hfin x hx
      have htf := td_fineAll hfin x
      have hal := fun z v1 v2 (a1 : TdIs z v1 (tdA D x)) (a2 : TdIs z v2 (tdA D x)) => alike_same a1 a2 htf
      have HN : Hid (FineK (nextA D x) (n + (k + 1))) := hide_it (next_fine HF.out HD.out.nodup x)
      have hl0 : wr.heap.size < W.heap.size := by omega
      unfold stepV at hcl
      unfold boxX at hW
      clear c0 c1 c2 c3 c4 c5 hrow hx hbW heach hX HD HF hfin htf
      go_wp2_with fail
      rw [← hW]
      clear hW d0 d1 d2 d3 d4 d5
      refine wp_region_held_drew (S := (fun w' => w'.heap[wr.heap.size]? = W.heap[wr.heap.size]?)) (by kernel_rfl) ?_ (fun hHeld => ?_)
      · rfl
      refine take_on (i := 0) (v := ?_) rfl rfl (by kernel_rfl) (by kernel_rfl) (by kernel_rfl) (fun _ _ _ h => h) rfl ?_ hHeld ?_
      rotate_left
      · (intro wq hSq; have xk := hSq.trans k0; have t0 := cell_of_row _ _ 0 _ _ _ xk; have t1 := cell_of_row _ _ 1 _ _ _ xk; have t2 := cell_of_row _ _ 2 _ _ _ xk; have t3 := cell_of_row _ _ 3 _ _ _ xk; have t4 := cell_of_row _ _ 4 _ _ _ xk; have t5 := cell_of_row _ _ 5 _ _ _ xk; go_simp <;> first | with_reducible rfl | rfl)
      simp only [Act.put, List.setIfInBounds_toArray, List.set_cons_zero, List.set_cons_succ]
      refine take_on (i := 1) (v := ?_) rfl rfl (by kernel_rfl) (by kernel_rfl) (by kernel_rfl) (fun _ _ _ h => h) rfl ?_ hHeld ?_
      rotate_left
      · (intro wq hSq; have xk := hSq.trans k0; have t0 := cell_of_row _ _ 0 _ _ _ xk; have t1 := cell_of_row _ _ 1 _ _ _ xk; have t2 := cell_of_row _ _ 2 _ _ _ xk; have t3 := cell_of_row _ _ 3 _ _ _ xk; have t4 := cell_of_row _ _ 4 _ _ _ xk; have t5 := cell_of_row _ _ 5 _ _ _ xk; go_simp <;> first | with_reducible rfl | rfl)
      simp only [Act.put, List.setIfInBounds_toArray, List.set_cons_zero, List.set_cons_succ]
      refine take_on (i := 3) (v := ?_) rfl rfl (by kernel_rfl) (by kernel_rfl) (by kernel_rfl) (fun _ _ _ h => h) rfl ?_ hHeld ?_
      rotate_left
      · (intro wq hSq; have xk := hSq.trans k0; have t0 := cell_of_row _ _ 0 _ _ _ xk; have t1 := cell_of_row _ _ 1 _ _ _ xk; have t2 := cell_of_row _ _ 2 _ _ _ xk; have t3 := cell_of_row _ _ 3 _ _ _ xk; have t4 := cell_of_row _ _ 4 _ _ _ xk; have t5 := cell_of_row _ _ 5 _ _ _ xk; go_simp <;> first | with_reducible rfl | rfl)
      simp only [Act.put, List.setIfInBounds_toArray, List.set_cons_zero, List.set_cons_succ]
      refine take_on (i := 4) (v := ?_) rfl rfl (by kernel_rfl) (by kernel_rfl) (by kernel_rfl) (fun _ _ _ h => h) rfl ?_ hHeld ?_
      rotate_left
      · (intro wq hSq; have xk := hSq.trans k0; have t0 := cell_of_row _ _ 0 _ _ _ xk; have t1 := cell_of_row _ _ 1 _ _ _ xk; have t2 := cell_of_row _ _ 2 _ _ _ xk; have t3 := cell_of_row _ _ 3 _ _ _ xk; have t4 := cell_of_row _ _ 4 _ _ _ xk; have t5 := cell_of_row _ _ 5 _ _ _ xk; go_simp <;> first | with_reducible rfl | rfl)
      simp only [Act.put, List.setIfInBounds_toArray, List.set_cons_zero, List.set_cons_succ]
      refine take_one (i := 2) rfl (by kernel_rfl) (fun K hK => ?_)
      go_simp
      (refine hcl.mono ?_; rintro e z1 ⟨v1, rfl, hy1, hb1, hcl2⟩; clear hcl)
      try go_wp2_with fail
      refine hK.out _ _ ?_ (fun hHeld => ?_)
      · exact hy1
      clear hK K
      try simp only [Act.put, List.setIfInBounds_toArray, List.set_cons_zero, List.set_cons_succ]
      refine take_one (i := 5) rfl (by kernel_rfl) (fun K hK => ?_)
      go_simp
      (refine hcl2.mono ?_; rintro e z2 ⟨v2, rfl, hv1, hv2, hX2, hy2⟩; replace hal := hal z2 v1 v2 hv1 hv2; clear hv1 hv2 hcl2)
      try go_wp2_with fail
      refine hK.out _ _ ?_ (fun hHeld => ?_)
      · exact hy2
      clear hK K
      try simp only [Act.put, List.setIfInBounds_toArray, List.set_cons_zero, List.set_cons_succ]
      refine take_one (i := 6) rfl (by kernel_rfl) (fun K hK => ?_)
      go_simp
      (refine hal.mono ?_; rintro e z3 ⟨rfl, hz3⟩; have hX3 := hX2.below hz3; clear hal)
      try go_wp2_with fail
      refine hK.out _ _ ?_ (fun hHeld => ?_)
      · exact (hz3.block _ hX2.lt).trans hy2
      clear hK K
      try simp only [Act.put, List.setIfInBounds_toArray, List.set_cons_zero, List.set_cons_succ]
      refine take_on (i := 7) (v := ?_) rfl rfl (by kernel_rfl) (by kernel_rfl) (by kernel_rfl) (fun _ _ _ h => h) rfl ?_ hHeld ?_
      rotate_left
      · (intro wq hSq; have xk := hSq.trans k0; have t0 := cell_of_row _ _ 0 _ _ _ xk; have t1 := cell_of_row _ _ 1 _ _ _ xk; have t2 := cell_of_row _ _ 2 _ _ _ xk; have t3 := cell_of_row _ _ 3 _ _ _ xk; have t4 := cell_of_row _ _ 4 _ _ _ xk; have t5 := cell_of_row _ _ 5 _ _ _ xk; go_simp <;> first | with_reducible rfl | rfl)
      simp only [Act.put, List.setIfInBounds_toArray, List.set_cons_zero, List.set_cons_succ]
      refine wpAnyH_done (by kernel_rfl) ?_ _
      have HY := hide_it hX3.duo
      clear hX2 hX3 hz3 hy1 hy2 hb1
      go_wp2
      go_roundw
      case rel => exact ⟨k + 1, _, by omega, by go_num, HY, HN⟩
      case measure => simp [intOf]; omega
    · have hn1 : ¬ (k : Int) < (m : Int) := by omega
      have hfin := HF.out.fine (by omega)
      have hve := HD.out.vers hfin
      have HFI := hide_it hfin
      clear hrow heach hlt hfin HF
      go_wp2_with fail
      refine hve.mono ?_
      rintro e z1 ⟨p1, n1, q1, y1, rfl, hn1', hr1, hs1, hb1⟩
      have hv2 := (HD.out.below hb1).swap.vers HFI.out
      have HR1 := hide_it hr1
      have HS1 := hide_it hs1
      have HB2 := hide_it (HB1.out.trans ((HD.out.below hb1).bel.mono HB1.out.size))
      clear hve hn1' hr1 hs1 hb1 HD
      go_wp2_with fail
      refine hv2.mono ?_
      rintro e z2 ⟨p2, n2, q2, y2, rfl, hn2', hr2, hs2, hb2⟩
      have hva := versionsAlike_same (HR1.out.below hb2) hr2 (HS1.out.trans hs2.symm) (vers_len HFI.out HS1.out) (vers_z HFI.out HS1.out)
      have HB3 := hide_it (HB2.out.trans (hb2.mono HB2.out.size))
      clear hv2 hn2' hr2 hs2 hb2 HR1 HS1 HB2
      go_wp2_with fail
      refine hva.mono ?_
      rintro e z3 ⟨rfl, hb3⟩
      have HB4 := hide_it (HB3.out.trans (hb3.mono HB3.out.size))
      clear hva hb3 HB3
      go_wp2
      go_ret
      exact ⟨rfl, HB4.out⟩

end Go.Proofs.Ytcdlalmahjjbgaa.storeBack

namespace Go.Proofs.Ytcdlalmahjjbgaa
open Go.ChangeShapes Go.WideShapes Go.ChangeAt Go.RowKit Go.Joins Go.Deep

section
variable {H : Type} {enc : TypeId × Value → H} {W : World}
theorem len_bulk {t e : TypeId} (ht : Try.prog.underlying t = some (.slice e)) {a : Option Addr} {n cap : Nat} {d : DataW H} {p : List MemPlace} (h : DataW.Trod enc Try.prog W 0 (fun _ => true) true t (.slice a n cap) d p) (hk : Rows.uptoBulk d ≤ 1048576) : n ≤ 1048576 := by
  obtain ⟨fuel, hf⟩ := h
  rcases open_slice ht hf with ⟨hcs, hx⟩ | ⟨a1, len0, cap0, m, n1, D, Pl, hcs, h1, hl, h2, hm, hx, hall⟩
  · change [Value.slice a n cap] = _ at hcs
    cases hcs
    omega
  · change [Value.slice a n cap] = _ at hcs
    cases hcs
    have hd : d = _ := congrArg Prod.fst hx
    have h5 := bulk_len ((List.range n).map D)
    rw [hd] at hk
    simp only [Rows.uptoBulk] at hk
    rw [List.length_map, List.length_range] at h5
    omega
set_option maxRecDepth 100000 in
theorem open_VsnsU {base : Nat} {v : Value} {d : DataW H} {p : List MemPlace} (hok : Value.okWide Try.prog W .any base 23 v) (h : DataW.Trod enc Try.prog W 0 (fun _ => true) true 23 v d p)
    (hb : Fits Try.prog 23 d) (hk : Rows.uptoBulk d ≤ 1048576) : ∃ (a : Option Addr) (n cap : Nat) (T : Nat → Vsn), v = .slice a n cap ∧ CameVsn W a n T ∧ n ≤ 1048576 := by
  obtain ⟨a, n, cap, T, rfl, h2⟩ := open_Vsns hok h hb
  exact ⟨a, n, cap, T, rfl, h2, len_bulk Try.underlying23 h hk⟩
set_option maxRecDepth 100000 in
theorem open_StvsU {base : Nat} {v : Value} {d : DataW H} {p : List MemPlace} (hok : Value.okWide Try.prog W .any base 22 v) (h : DataW.Trod enc Try.prog W 0 (fun _ => true) true 22 v d p)
    (hb : Fits Try.prog 22 d) (hk : Rows.uptoBulk d ≤ 1048576) : ∃ (a : Option Addr) (n cap : Nat) (T : Nat → Stv), v = .slice a n cap ∧ CameStv W a n T ∧ n ≤ 1048576 := by
  obtain ⟨a, n, cap, T, rfl, h2⟩ := open_Stvs hok h hb
  exact ⟨a, n, cap, T, rfl, h2, len_bulk Try.underlying22 h hk⟩
end
end Go.Proofs.Ytcdlalmahjjbgaa

namespace Go.Proofs.Ytcdlalmahjjbgaa.storeBack
open Go.ChangeShapes Go.WideShapes Go.ChangeAt Go.RowKit
open Go.ChangeMaps (open_string shut_string)

set_option maxRecDepth 100000 in
theorem lifted (os : Os) (started : os.Started) (H : Type) (enc : TypeId × Value → H) (F : Stop.Interp) :
    ReturnsInHanded {} Try.checked os 8 .any ((Rows.OpenSpec.upto Rows.storeBackSpec).pre6 enc Try.prog Try.f8 Rows.storeBackUptoRow.domain false) (((Rows.OpenSpec.upto Rows.storeBackSpec).at F).post enc Try.prog Try.f8 false true false false) := by
  refine returnsInHanded_of_cond_sized (C := Try.checked) (s := Rows.OpenSpec.upto Rows.storeBackSpec) (k := Rows.uptoSmall) rfl own started (by kernel_rfl) Try.func8
    (OpenSpec.witness (enc := enc) (C := Try.checked) (s := Rows.OpenSpec.upto Rows.storeBackSpec) (k := Rows.uptoSmall) rfl false ⟨#[], #[.slice none 0 0, .slice none 0 0], []⟩ 8 (by kernel_rfl) (by kernel_rfl) (by kernel_rfl)
      (x := ([.nil, .nil], [], [])) (by kernel_rfl) rfl (by kernel_rfl)) ?_
  intro W base args ds gs before hval0 hW _ hk hsz0 _
  have hsz : (DataW.weightsEach Try.prog (Try.f8.params.toList ++ Rows.storeBackSpec.plain.varTypes Try.prog) (ds ++ gs)).all (· ≤ reachBytes) = true := hsz0
  clear hsz0
  have hval : ∀ (j : Nat) t v, Try.f8.params[j]? = some t → args[j]? = some v → Value.okWide Try.prog W .any base t v := hval0
  have hW' := hW
  obtain ⟨p, q, hA0, hV, rfl, _, _⟩ := hW
  have hA : DataW.TrodAll enc Try.prog W 0 (fun _ => true) true Try.f8.params.toList args.toList ds p := hA0
  rw [Try.params8] at hA hval hsz
  obtain ⟨v0, vs0, d0, ds0, p0, q0, hargs, rfl, rfl, h0, r0⟩ := trodAll_cons hA
  obtain ⟨v1, vs1, d1, ds1, p1, q1, rfl, rfl, rfl, h1, r1⟩ := trodAll_cons r0
  obtain ⟨rfl, rfl, rfl⟩ := trodAll_nil r1
  obtain rfl : args = #[v0, v1] := by cases args; simp_all
  obtain ⟨rfl, rfl⟩ := trodVars_none hV
  have hkb : Rows.uptoBulkAll [d0, d1] ≤ 1048576 := of_decide_eq_true hk
  have k0 := h0
  have lt0 : ∀ x ∈ p0, x.block < W.heap.size := by obtain ⟨m, hm⟩ := k0; exact DataW.trod_lt m _ _ _ hm
  have bd0 : Rows.uptoBulk d0 ≤ 1048576 := Nat.le_trans (bulk_mem (by simp)) hkb
  obtain ⟨a0, n0, c0, A0, rfl, s0⟩ := open_VsnsU (hval 0 23 v0 rfl rfl) h0 (fits_param hsz (j := 0) rfl rfl) bd0
  have k1 := h1
  have lt1 : ∀ x ∈ p1, x.block < W.heap.size := by obtain ⟨m, hm⟩ := k1; exact DataW.trod_lt m _ _ _ hm
  have bd1 : Rows.uptoBulk d1 ≤ 1048576 := Nat.le_trans (bulk_mem (by simp)) hkb
  obtain ⟨a1, n1, c1, A1, rfl, s1⟩ := open_StvsU (hval 1 22 v1 rfl rfl) h1 (fits_param hsz (j := 1) rfl rfl) bd1
  clear hA0 hval0
  refine (walk a0 n0 c0 A0 a1 n1 c1 A1 W s0.1 s0.2 s1.1 s1.2).mono fun e W' ⟨he, bel⟩ => ?_
  subst he
  exact ⟨_, rfl, _, _, _, [], _, [], hW', trodAll_mk1 (shut_bool Try.underlying4 _), (trodAll_cons_mk (Below.trod laidOut (by kernel_rfl) (of_decide_eq_true (by kernel_rfl)) k0 bel lt0) (trodAll_cons_mk (Below.trod laidOut (by kernel_rfl) (of_decide_eq_true (by kernel_rfl)) k1 bel lt1) trodAll_mk0)), rfl, bel.frame _, fun h => by cases h⟩

theorem over : Rows.StoreBackUptoSaid :=
  OpenClaim.holds_of_cond 8 Try.f8 rfl rfl rfl rfl rfl rfl rfl ⟨rfl, rfl, rfl, rfl, rfl⟩ rfl rfl rfl rfl rfl (by kernel_rfl) Try.func8 (by kernel_rfl)
    (of_decide_eq_true (by kernel_rfl)) (by unfold Func.isWrapper; first | (rw [if_pos (by decide +kernel)]; kernel_rfl) | (rw [if_neg (by decide +kernel)]; exact ⟨rfl, rfl⟩))
    (fun os started H enc _ F => lifted os started H enc F)

end Go.Proofs.Ytcdlalmahjjbgaa.storeBack

namespace Go.Proofs.Ytcdlalmahjjbgaa
theorem storeBack_upto_holds : Rows.StoreBackUptoSaid := storeBack.over
#print axioms storeBack_upto_holds
end Go.Proofs.Ytcdlalmahjjbgaa
