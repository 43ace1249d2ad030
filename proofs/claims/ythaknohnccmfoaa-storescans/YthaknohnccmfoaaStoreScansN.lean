/- Load, walked. A store's versions, loaded, are the store. A Vacuum: what goes, and what is told behind it. A scan: cut in two; each pair is what Get tells; how many versions are told. One filled store, asked. Queues: what a ring holds, as lists; which blocks a call of a queue changes. A queue of texts in memory, and the calls that only read it; New; line. Lists of texts in memory: read, and of the call's own: grown. A list of texts of the call's own, sorted. Two lists of pairs, one behind the other. The law on scans, walked. A list of calls of queues in memory. What each row of layer 5 asks besides its walk. Opening a law's argument that is a list of calls of queues. Opening a law's argument that is a list of texts. A list of texts that came in is no longer than its room. The statement about StoreScans, proved: for every input the law answers true and leaves its arguments as they were. -/
import Derived.Test.YthaknohnccmfoaaSo32
import Derived.Test.YthaknohnccmfoaaRows
import Derived.Test.YthaknohnccmfoaaReg2
import Derived.WalkKit
import Derived.WalkSpells
import Derived.WalkLawsBesides
import Derived.Laws.BitsAllLaws
import Derived.Maps.AppendAt
import Derived.Laws.AppendOwnNone
import Derived.Laws.CopyOwn
import Derived.OwnWalk
import Derived.Below
import Derived.Tactics
import Derived.Deep.OwnRows
import Derived.OpenShut
import Derived.Deep.QuietTactic
import Derived.BigQuiet
import Derived.BigRegion
import Derived.RegionTactic
import Derived.Test.YthaknohnccmfoaaLay14
import Derived.ProofKit
import Derived.SizedLaws
import Derived.ShutString
import Derived.ChangeOld
import Derived.Test.YthaknohnccmfoaaOpenW
import Derived.Lib.SmallJoins
import Derived.Deep.Slices
import Derived.Test.YthaknohnccmfoaaOpenB
import Derived.Test.YthaknohnccmfoaaOpenVsn
namespace Go.Proofs.Ythaknohnccmfoaa
open Go.RowKit Go.Maps

/-- What a store is that takes versions as long as they are taken, and the first error. -/
def loadA (A : Cont) : List Vn → Cont × Int
  | [] => (A, 0)
  | y :: r => if applyE A y = 0 then loadA (applyA A y) r else (A, applyE A y)
theorem Fil.appV {w z : World} {s : Nat} {A : Cont} (h : Fil w z s A) (hf : Fine A) (y : Vn) (hy : VnOk w y) : Calls Try.prog 31 #[.pointer (some ⟨s, 0, none⟩), verV y] z fun e z' => e = .returned (.int .i64 (applyE A y)) ∧ Fil w z' s (applyA A y) := by
  obtain ⟨F, mb, M, hs, rfl, hl⟩ := h.st
  refine (apply_any hs y (hy.below h.bel) (fun b o h0 e hb => by
    have h1 := hl b hb
    rcases hy.row with h2 | ⟨b2, o2, e2, h3, _⟩
    · omega
    · rw [e] at e2; cases e2; omega) hf.tot (by have := hf.keys; simpa [abs] using this)).mono ?_
  rintro e z' ⟨rfl, h2⟩
  obtain ⟨mb', M', q1, q2⟩ := h2.st
  refine ⟨rfl, ⟨_, mb', M', q1, q2, fun j hj => ?_⟩, h.bel.trans (h2.chg.below hl h.bel.size)⟩
  rcases hj with hj | hj
  · exact hl j hj
  · exact Nat.le_trans h.bel.size hj.1
/-- A row of versions that can be read. -/
def RowN (w : World) (a : Option Addr) (ys : List Vn) : Prop := ys.length = 0 ∨ ∃ b o, a = some ⟨b, o, none⟩ ∧ b < w.heap.size ∧ ∀ i, i < ys.length → w.cell? ⟨b, o + i * 4, none⟩ = some (.string (vn ys i).k) ∧ w.cell? ⟨b, o + i * 4 + 1, none⟩ = some (.int .i64 (vn ys i).n) ∧ w.cell? ⟨b, o + i * 4 + 2, none⟩ = some (.slice (vn ys i).a (vn ys i).z.length (vn ys i).c) ∧ w.cell? ⟨b, o + i * 4 + 3, none⟩ = some (.bool (vn ys i).d)

set_option maxRecDepth 100000 in
set_option maxHeartbeats 4000000 in
theorem load_any (a : Option Addr) (c : Nat) (ys : List Vn) (w : World) (hr : RowN w a ys) (hl : ys.length ≤ 4000000000000) (hok : ∀ i, i < ys.length → VnOk w (vn ys i)) :
    Calls Try.prog 20 #[.slice a ys.length c] w fun e w' => (((loadA [] ys).2 = 0 ∧ e = .returned (.tuple #[.pointer (some ⟨w.heap.size, 0, none⟩), .int .i64 0]) ∧ Fil w w' w.heap.size (loadA [] ys).1 ∧ FineK (loadA [] ys).1 ys.length) ∨ ((loadA [] ys).2 ≠ 0 ∧ e = .returned (.tuple #[.pointer none, .int .i64 (loadA [] ys).2]))) ∧ Below w.heap.size w w' := by
  have hnew := new_any w
  obtain ⟨V1, hV1⟩ : ∃ W, W = w.alloc (.cells #[.map none] 75) := ⟨_, rfl⟩
  have hF0 : Fil w V1 w.heap.size [] := by
    rw [hV1]
    exact ⟨⟨_, none, [], sto_new w, rfl, fun j hj => Nat.le_of_eq hj.symm⟩, (Below.refl _ _).alloc (Nat.le_refl _) _⟩
  rw [← hV1] at hnew
  obtain ⟨N, hN⟩ : ∃ N, N = ys.length := ⟨_, rfl⟩
  have HF0 := hide_it hF0
  have HR := hide_it hr
  have HOK := hide_it hok
  have HN := hide_it hN
  rw [← hN] at hl ⊢
  clear hF0 hV1 hr hok hN
  go_enter Try.func20, Try.ntmps20
  go_wp2_with fail
  refine hnew.mono ?_
  rintro e w1 ⟨rfl, hw1⟩
  obtain rfl := hw1.symm
  clear hnew hw1
  go_wp2_with fail
  go_loopw [11, 6, 7] (fun i _ _ wr => ∃ (k : Nat) (A : Cont), k ≤ N ∧ i = .int .i64 (k : Int) ∧ Hid (Fil w wr w.heap.size A) ∧ Hid (FineK A k) ∧ Hid (loadA [] ys = loadA A (ys.drop k))) (fun i _ _ _ => N - (intOf i).toNat)
  case atStart => exact ⟨0, [], by omega, rfl, HF0, hide_it FineK.nil, hide_it rfl⟩
  case round =>
    clear HF0
    obtain ⟨k, A, hk, rfl, HD, HF, HL⟩ := hrel
    by_cases hlt : k < N
    · have hki : (k : Int) < (N : Int) := by omega
      have hw1 : IntKind.i64.wrap ((k : Int) + 1) = (k : Int) + 1 := i64_in (by omega) (by omega)
      have hky : k < ys.length := by rw [← HN.out]; exact hlt
      obtain ⟨b2, o2, rfl, l2, hc⟩ : ∃ b o, a = some ⟨b, o, none⟩ ∧ b < w.heap.size ∧ ∀ i, i < ys.length → _ := by
        rcases HR.out with h0 | h0
        · omega
        · exact h0
      obtain ⟨c0, c1, c2, c3⟩ := hc k hky
      have d0 := (HD.out.bel.cell (p := ⟨b2, o2 + k * 4, none⟩) l2).trans c0
      have d1 := (HD.out.bel.cell (p := ⟨b2, o2 + k * 4 + 1, none⟩) l2).trans c1
      have d2 := (HD.out.bel.cell (p := ⟨b2, o2 + k * 4 + 2, none⟩) l2).trans c2
      have d3 := (HD.out.bel.cell (p := ⟨b2, o2 + k * 4 + 3, none⟩) l2).trans c3
      have hx := HOK.out k hky
      have hdr : ys.drop k = vn ys k :: ys.drop (k + 1) := by rw [List.drop_eq_getElem_cons hky, vn_get hky]
      have hld : loadA [] ys = if applyE A (vn ys k) = 0 then loadA (applyA A (vn ys k)) (ys.drop (k + 1)) else (A, applyE A (vn ys k)) := by rw [HL.out, hdr]; rfl
      generalize vn ys k = y at *
      have HN2 := hide_it (applyA_fine HF.out HD.out.nodup y)
      have hfin := HF.out.fine (show k ≤ 4000000000000 by omega)
      obtain ⟨W, hW⟩ : ∃ W, W = wr.alloc (.cells #[.string y.k, .int .i64 y.n, .slice y.a y.z.length y.c, .bool y.d] 30) := ⟨_, rfl⟩
      have hbW : Below wr.heap.size wr W := by rw [hW]; exact (Below.refl _ _).alloc (Nat.le_refl _) _
      have hap := (HD.out.below hbW).appV hfin y hx
      unfold verV at hap
      by_cases h0 : applyE A y = 0
      · rw [if_pos h0] at hld
        rw [h0] at hap
        have HLD := hide_it hld
        clear c0 c1 c2 c3 hc hx hbW HD HF HL hfin hdr hld h0
        go_wp2_with fail
        rw [← hW]
        clear hW d0 d1 d2 d3
        refine hap.mono ?_
        rintro e z1 ⟨rfl, hD⟩
        have HY := hide_it hD
        clear hap hD
        go_wp2
        go_roundw
        case rel => exact ⟨k + 1, _, by omega, by go_num, HY, HN2, HLD⟩
        case measure => simp [intOf]; omega
      · rw [if_neg h0] at hld
        have HLD := hide_it hld
        have hq : (applyE A y == 0) = false := by simpa using h0
        have H0 := hide_it h0
        generalize applyE A y = E at *
        clear c0 c1 c2 c3 hc hx hbW HD HF HL hfin hdr hld h0
        go_wp2_with fail
        rw [← hW]
        clear hW d0 d1 d2 d3
        refine hap.mono ?_
        rintro e z1 ⟨rfl, hD⟩
        have HY := hide_it hD.bel
        clear hap hD
        go_wp2
        refine bodyPost_ret (v := .tuple #[.pointer none, .int .i64 E]) (by simp [results, Try.results20, go_sem]) rfl ⟨.inr ?_, HY.out⟩
        rw [HLD.out]; exact ⟨H0.out, rfl⟩
    · have hn1 : ¬ (k : Int) < (N : Int) := by omega
      have hkn : k = ys.length := by have := HN.out; omega
      have hld : loadA [] ys = (A, 0) := by rw [HL.out, hkn, List.drop_length]; rfl
      have HLD := hide_it hld
      have hF2 := HF.out.mono hk
      have HF2 := hide_it hF2
      clear hkn hld hF2 HL HF
      go_wp2
      refine bodyPost_ret (v := .tuple #[.pointer (some ⟨w.heap.size, 0, none⟩), .int .i64 0]) (by simp [results, Try.results20, go_sem]) rfl ⟨.inl ?_, HD.out.bel⟩
      rw [HLD.out]; exact ⟨rfl, rfl, HD.out, HF2.out⟩

end Go.Proofs.Ythaknohnccmfoaa

namespace Go.Proofs.Ythaknohnccmfoaa
open Go.RowKit Go.Maps
open Go.WideAt (bytes_irrefl)
open Go.WideShapes (bytes_trans)

/-- A version that a store takes, but for its place. -/
def checkT (k : List UInt8) (l : Ver) : Prop := ¬ (k.length < 1 ∨ 255 < k.length) ∧ ¬ (4096 < l.b.length ∨ (l.d = true ∧ 0 < l.b.length)) ∧ ¬ (l.n < 0 ∨ 4611686018427387904 < l.n)
theorem check_iff (x : Vn) : checkE x = 0 ↔ checkT x.k.data.toList (verOf x) := by
  have hs : x.k.data.toList.length = x.k.size := by rw [Array.length_toList]; rfl
  unfold checkE checkT
  rw [hs]
  show _ ↔ ¬ (x.k.size < 1 ∨ 255 < x.k.size) ∧ ¬ (4096 < x.z.length ∨ (x.d = true ∧ 0 < x.z.length)) ∧ ¬ (x.n < 0 ∨ 4611686018427387904 < x.n)
  by_cases h1 : x.k.size < 1 ∨ 255 < x.k.size
  · rw [if_pos h1]; exact ⟨fun h => (by cases h), fun h => absurd h1 h.1⟩
  · rw [if_neg h1]
    by_cases h2 : 4096 < x.z.length ∨ (x.d = true ∧ 0 < x.z.length)
    · rw [if_pos h2]; exact ⟨fun h => (by cases h), fun h => absurd h2 h.2.1⟩
    · rw [if_neg h2]
      by_cases h3 : x.n < 0 ∨ 4611686018427387904 < x.n
      · rw [if_pos h3]; exact ⟨fun h => (by cases h), fun h => absurd h3 h.2.2⟩
      · rw [if_neg h3]; exact ⟨fun _ => ⟨h1, h2, h3⟩, fun _ => rfl⟩
/-- What is known of every key of a store that was filled. -/
structure GoodA (A : Cont) : Prop where
  ne : ∀ e ∈ A, e.2 ≠ []
  st : ∀ e ∈ A, e.2.Pairwise fun l m => l.n < m.n
  ok : ∀ e ∈ A, ∀ l ∈ e.2, checkT e.1 l
theorem GoodA.nil : GoodA [] := ⟨(fun e h => by cases h), (fun e h => by cases h), (fun e h => by cases h)⟩
theorem last_most {ls : List Ver} (h : ls.Pairwise fun l m => l.n < m.n) : ∀ a ∈ ls, a.n ≤ (vr ls (ls.length - 1)).n := fun a ha => by
  obtain ⟨i, hi, rfl⟩ := List.mem_iff_getElem.1 ha
  rw [← vr_get (show ls.length - 1 < ls.length by omega)]
  by_cases h1 : i = ls.length - 1
  · subst h1; exact Int.le_refl _
  · exact Int.le_of_lt (List.pairwise_iff_getElem.1 h i (ls.length - 1) hi (by omega) (by omega))
theorem snoc_rise {ls : List Ver} {l : Ver} (h : ls.Pairwise fun l m => l.n < m.n) (hl : ¬ lowV ls l.n) : (ls ++ [l]).Pairwise fun l m => l.n < m.n := by
  refine List.pairwise_append.2 ⟨h, List.pairwise_singleton _ _, fun a ha b hb => ?_⟩
  obtain rfl := List.mem_singleton.1 hb
  have h1 := last_most h a ha
  have h2 : 0 < ls.length := List.length_pos_of_mem ha
  unfold lowV at hl
  have : ¬ b.n ≤ (vr ls (ls.length - 1)).n := fun h3 => hl ⟨h2, h3⟩
  omega
theorem mem_setA {B : Cont} {k : List UInt8} {ls : List Ver} {e : List UInt8 × List Ver} (h : e ∈ setA B k ls) : e = (k, ls) ∨ (e ∈ B ∧ e.1 ≠ k) := by
  unfold setA at h
  obtain ⟨f, hf, h2⟩ := List.mem_map.1 h
  by_cases h3 : (f.1 == k) = true
  · rw [if_pos h3] at h2
    have : f.1 = k := by simpa using h3
    exact .inl (by rw [← h2, this])
  · rw [if_neg h3] at h2
    subst h2
    exact .inr ⟨hf, by simpa using h3⟩
theorem good_apply {A : Cont} (h : GoodA A) (x : Vn) : GoodA (applyA A x) := by
  unfold applyA
  split
  · rename_i h0
    have hc : checkE x = 0 ∧ ¬ lowV (lsOf A x.k.data.toList) x.n := by
      unfold applyE at h0
      split at h0
      · rename_i h1; exact absurd h0 h1
      · rename_i h1
        split at h0
        · cases h0
        · rename_i h2; exact ⟨by simpa using h1, h2⟩
    have hm : ∀ e ∈ addA A x.k.data.toList (verOf x), e = (x.k.data.toList, lsOf A x.k.data.toList ++ [verOf x]) ∨ e ∈ A := fun e he => by
      unfold addA at he
      rcases mem_setA he with h1 | ⟨h1, h2⟩
      · exact .inl h1
      · right
        split at h1
        · exact h1
        · rcases mem_insA h1 with h3 | h3
          · rw [h3] at h2; exact absurd rfl h2
          · exact h3
    refine ⟨fun e he => ?_, fun e he => ?_, fun e he l hl => ?_⟩
    · rcases hm e he with rfl | h1
      · simp
      · exact h.ne e h1
    · rcases hm e he with rfl | h1
      · refine snoc_rise ?_ hc.2
        rcases lsOf_in (A := A) (k := x.k.data.toList) with h2 | ⟨f, hf, _, h2⟩
        · rw [h2]; exact List.Pairwise.nil
        · rw [← h2]; exact h.st f hf
      · exact h.st e h1
    · rcases hm e he with rfl | h1
      · rcases List.mem_append.1 hl with h2 | h2
        · rcases lsOf_in (A := A) (k := x.k.data.toList) with h3 | ⟨f, hf, h4, h3⟩
          · rw [h3] at h2; cases h2
          · rw [← h3] at h2
            have := h.ok f hf l h2
            rwa [h4] at this
        · obtain rfl := List.mem_singleton.1 h2
          exact (check_iff x).1 hc.1
      · exact h.ok e h1 l hl
  · exact h
theorem loadA_cons (A : Cont) (y : Vn) (r : List Vn) : loadA A (y :: r) = if applyE A y = 0 then loadA (applyA A y) r else (A, applyE A y) := rfl
theorem loadA_append (A : Cont) (xs ys : List Vn) : loadA A (xs ++ ys) = if (loadA A xs).2 = 0 then loadA (loadA A xs).1 ys else loadA A xs := by
  induction xs generalizing A with
  | nil => simp [loadA]
  | cons x r ih =>
    rw [List.cons_append, loadA_cons, loadA_cons]
    by_cases h : applyE A x = 0
    · rw [if_pos h, if_pos h]; exact ih _
    · rw [if_neg h, if_neg h, if_neg h]
theorem setA_snoc {A : Cont} {k : List UInt8} {x ls : List Ver} (h : ∀ f ∈ A, f.1 ≠ k) : setA (A ++ [(k, x)]) k ls = A ++ [(k, ls)] := by
  unfold setA
  rw [List.map_append]
  congr 1
  · have h1 : ∀ f ∈ A, (if (f.1 == k) = true then (f.1, ls) else f) = f := fun f hf => if_neg (by simpa using h f hf)
    rw [List.map_congr_left h1]; simp
  · simp
theorem lsOf_snoc {A : Cont} {k : List UInt8} {x : List Ver} (h : ∀ f ∈ A, f.1 ≠ k) : lsOf (A ++ [(k, x)]) k = x := by
  unfold lsOf
  have h1 : A.find? (fun e => e.1 == k) = none := List.find?_eq_none.2 fun e he h2 => h e he (by simpa using h2)
  rw [List.find?_append, h1]
  simp
theorem insA_snoc {A : Cont} {k : List UInt8} (h : ∀ f ∈ A, bytesBefore f.1 k = true) : insA k A = A ++ [(k, [])] := by
  induction A with
  | nil => rfl
  | cons f r ih =>
    unfold insA
    have h1 := h f (List.mem_cons_self ..)
    have h2 : ¬ bytesBefore k f.1 = true := fun h3 => by
      have := bytes_trans _ _ _ h1 h3
      rw [bytes_irrefl] at this; cases this
    rw [if_neg h2, ih fun g hg => h g (List.mem_cons_of_mem _ hg)]; rfl
/-- One key's versions, loaded behind what lies before. -/
theorem load_key {A : Cont} {k : List UInt8} (h : ∀ f ∈ A, bytesBefore f.1 k = true) : ∀ (ls2 ls1 : List Ver) (ys : List Vn), saysV ys = ls2.map (fun l => (k, l)) → (ls1 ++ ls2).Pairwise (fun l m => l.n < m.n) → (∀ l ∈ ls2, checkT k l) →
    loadA (if ls1 = [] then A else A ++ [(k, ls1)]) ys = (if ls1 ++ ls2 = [] then A else A ++ [(k, ls1 ++ ls2)], 0)
  | [], ls1, ys, hs, _, _ => by
    have : ys = [] := by
      cases ys with
      | nil => rfl
      | cons y r => cases hs
    subst this
    rw [List.append_nil]; rfl
  | l :: t, ls1, ys, hs, hp, hc => by
    have hne : ∀ f ∈ A, f.1 ≠ k := fun f hf e => by
      have := h f hf
      rw [e, bytes_irrefl] at this; cases this
    cases ys with
    | nil => cases hs
    | cons y r =>
      unfold saysV at hs
      rw [List.map_cons, List.map_cons, List.cons.injEq, Prod.mk.injEq] at hs
      obtain ⟨⟨hk, hv⟩, hr⟩ := hs
      have hls : lsOf (if ls1 = [] then A else A ++ [(k, ls1)]) k = ls1 := by
        split
        · rename_i h1
          rw [h1]
          refine lsOf_has ?_
          unfold hasK
          rw [List.any_eq_false]
          exact fun e he h2 => hne e he (by simpa using h2)
        · exact lsOf_snoc hne
      have he : applyE (if ls1 = [] then A else A ++ [(k, ls1)]) y = 0 := by
        unfold applyE
        have h1 : checkE y = 0 := (check_iff y).2 (by rw [hk, hv]; exact hc l (List.mem_cons_self ..))
        rw [if_neg (by rw [h1]; simp), hk, hls]
        refine if_neg fun hlow => ?_
        have h2 := (List.pairwise_append.1 hp).2.2 (vr ls1 (ls1.length - 1)) (vr_mem (by have := hlow.1; omega)) l (List.mem_cons_self ..)
        have h3 : y.n = l.n := congrArg Ver.n hv
        have := hlow.2
        omega
      have ha : applyA (if ls1 = [] then A else A ++ [(k, ls1)]) y = if ls1 ++ [l] = [] then A else A ++ [(k, ls1 ++ [l])] := by
        unfold applyA addA
        rw [if_pos he, hk, hv, hls, if_neg (show ¬ ls1 ++ [l] = [] by simp)]
        by_cases h1 : ls1 = []
        · have h2 : hasK A k = false := by
            unfold hasK
            rw [List.any_eq_false]
            exact fun e he h2 => hne e he (by simpa using h2)
          rw [if_pos h1, h2, if_neg (by simp), insA_snoc h, setA_snoc hne]
        · have h2 : hasK (A ++ [(k, ls1)]) k = true := by
            unfold hasK; rw [List.any_append]; simp
          rw [if_neg h1, h2, if_pos rfl, setA_snoc hne]
      unfold loadA
      rw [if_pos he, ha, load_key h t (ls1 ++ [l]) r hr (by rw [List.append_assoc]; exact hp) fun m hm => hc m (List.mem_cons_of_mem _ hm), List.append_assoc]
      rfl
theorem load_from : ∀ (A2 A1 : Cont) (ys : List Vn), GoodA A2 → (A1 ++ A2).Pairwise (fun e f => bytesBefore e.1 f.1 = true) → saysV ys = versA A2 → loadA A1 ys = (A1 ++ A2, 0)
  | [], A1, ys, _, _, hs => by
    have : ys = [] := by
      cases ys with
      | nil => rfl
      | cons y r => cases hs
    subst this
    rw [List.append_nil]; rfl
  | e :: r, A1, ys, hg, hp, hs => by
    have hs2 : saysV ys = e.2.map (fun l => (e.1, l)) ++ versA r := by rw [hs]; unfold versA; rw [List.flatMap_cons]
    unfold saysV at hs2
    obtain ⟨ys1, ys2, rfl, h1, h2⟩ := List.map_eq_append_iff.1 hs2
    have hk := load_key (A := A1) (k := e.1) (fun f hf => (List.pairwise_append.1 hp).2.2 f hf e (List.mem_cons_self ..)) e.2 [] ys1 h1 (hg.st e (List.mem_cons_self ..)) (hg.ok e (List.mem_cons_self ..))
    rw [if_pos rfl, List.nil_append, if_neg (hg.ne e (List.mem_cons_self ..))] at hk
    rw [loadA_append, hk, if_pos rfl]
    have := load_from r (A1 ++ [e]) ys2 ⟨fun f hf => hg.ne f (List.mem_cons_of_mem _ hf), fun f hf => hg.st f (List.mem_cons_of_mem _ hf), fun f hf => hg.ok f (List.mem_cons_of_mem _ hf)⟩ (by rw [List.append_assoc]; exact hp) h2
    rw [List.append_assoc] at this
    exact this
theorem load_back {A : Cont} {ys : List Vn} (hg : GoodA A) (hp : A.Pairwise fun e f => bytesBefore e.1 f.1 = true) (hs : saysV ys = versA A) : loadA [] ys = (A, 0) := load_from A [] ys hg hp hs
theorem good_fil (A : Nat → Vsn) : ∀ n, GoodA (filA A n)
  | 0 => GoodA.nil
  | n + 1 => good_apply (good_fil A n) _

end Go.Proofs.Ythaknohnccmfoaa

namespace Go.Proofs.Ythaknohnccmfoaa
open Go.RowKit Go.Maps

theorem up_cons (l : Ver) (r : List Ver) (n : Int) : upV (l :: r) n = (if l.n ≤ n then 1 else 0) + upV r n := by
  unfold upV
  rw [List.filter_cons]
  by_cases h : l.n ≤ n
  · rw [if_pos (by simpa using h), if_pos h, List.length_cons]; omega
  · rw [if_neg (by simpa using h), if_neg h]; omega
theorem up_none {r : List Ver} {n : Int} (h : ∀ l ∈ r, n < l.n) : upV r n = 0 := by
  induction r with
  | nil => rfl
  | cons l r ih => rw [up_cons, if_neg (by have := h l (by simp); omega), ih fun m hm => h m (by simp [hm])]
theorem up_mono {ls : List Ver} {n m : Int} (h : n ≤ m) : upV ls n ≤ upV ls m := by
  induction ls with
  | nil => exact Nat.le_refl _
  | cons l r ih =>
    rw [up_cons, up_cons]
    by_cases h1 : l.n ≤ n
    · rw [if_pos h1, if_pos (by omega)]; omega
    · rw [if_neg h1]; split <;> omega
theorem up_drop {ls : List Ver} (hs : ls.Pairwise fun l m => l.n < m.n) {n : Int} : ∀ {g : Nat}, g ≤ upV ls n → upV (ls.drop g) n = upV ls n - g := by
  induction ls with
  | nil => intro g _; simp [upV]
  | cons l r ih =>
    intro g hg
    cases g with
    | zero => simp
    | succ g =>
      have hs' := List.pairwise_cons.1 hs
      rw [up_cons] at hg ⊢
      by_cases h1 : l.n ≤ n
      · rw [if_pos h1] at hg ⊢
        rw [List.drop_succ_cons, ih hs'.2 (by omega)]; omega
      · rw [if_neg h1, up_none fun m hm => by have := hs'.1 m hm; omega] at hg
        omega
theorem up_append (ls ms : List Ver) (n : Int) : upV (ls ++ ms) n = upV ls n + upV ms n := by
  unfold upV; rw [List.filter_append, List.length_append]
theorem lsOf_rise {A : Cont} (h : GoodA A) (k : List UInt8) : (lsOf A k).Pairwise fun l m => l.n < m.n := by
  unfold lsOf
  cases hf : A.find? (fun e => e.1 == k) with
  | none => exact List.Pairwise.nil
  | some e => exact h.st e (List.mem_of_find?_eq_some hf)
theorem keys_setA (A : Cont) (k : List UInt8) (ls : List Ver) : (setA A k ls).map (·.1) = A.map (·.1) := by
  unfold setA
  rw [List.map_map]
  refine List.map_congr_left fun e _ => ?_
  simp only [Function.comp]
  split <;> rfl
theorem keys_insA (k : List UInt8) : ∀ {A B : Cont}, A.map (·.1) = B.map (·.1) → (insA k A).map (·.1) = (insA k B).map (·.1)
  | [], [], _ => rfl
  | [], _ :: _, h => by simp at h
  | _ :: _, [], h => by simp at h
  | a :: r, b :: s, h => by
    rw [List.map_cons, List.map_cons, List.cons.injEq] at h
    have ih := keys_insA k (A := r) (B := s) h.2
    unfold insA
    rw [h.1]
    split
    · simp [h.1, h.2]
    · simp [h.1, ih]
theorem hasK_keys (A : Cont) (k : List UInt8) : hasK A k = (A.map (·.1)).any (· == k) := by
  unfold hasK; rw [List.any_map]; rfl
theorem at_nodup {A : Cont} (hd : (A.map (·.1)).Nodup) {e : List UInt8 × List Ver} (he : e ∈ A) (n : Int) : atA A e.1 n = if upV e.2 n = 0 then none else some (vr e.2 (upV e.2 n - 1)) := by
  unfold atA; rw [of_nodup hd e he]
theorem scan_keys {A : Cont} (hd : (A.map (·.1)).Nodup) (f t : List UInt8) (n : Int) : scanA A f t n = (A.map (·.1)).filterMap fun k => if inK f t k = true then (live (atA A k n)).map fun z => (k, z) else none := by
  have e1 : ∀ B : Cont, (∀ e ∈ B, e ∈ A) → scanA B f t n = (B.map (·.1)).filterMap fun k => if inK f t k = true then (live (atA A k n)).map fun z => (k, z) else none := fun B => by
    unfold scanA
    induction B with
    | nil => intro _; rfl
    | cons e r ih =>
      intro hB
      have hi := ih fun x hx => hB x (by simp [hx])
      rw [List.filter_cons, List.map_cons, List.filterMap_cons]
      by_cases h : inK f t e.1 = true
      · rw [if_pos h, if_pos h, List.filterMap_cons, hi, at_nodup hd (hB e (by simp))]
      · rw [if_neg h, if_neg h]; exact hi
  exact e1 A fun e he => he
theorem live_keys {A : Cont} (hd : (A.map (·.1)).Nodup) : liveA A = ((A.map (·.1)).map fun k => liveK k (lsOf A k)).sum := by
  unfold liveA
  rw [List.map_map]
  congr 1
  refine List.map_congr_left fun e he => ?_
  simp only [Function.comp]
  rw [of_nodup hd e he]
theorem low_last (A : Cont) (k : List UInt8) (n : Int) : lowV (lsOf A k) n ↔ ∃ l, lastA A k = some l ∧ n ≤ l.n := by
  unfold lowV lastA
  by_cases h : (lsOf A k).length = 0
  · rw [if_pos h]
    exact ⟨fun h1 => by omega, fun ⟨l, h1, _⟩ => by cases h1⟩
  · rw [if_neg h]
    exact ⟨fun h1 => ⟨_, rfl, h1.2⟩, fun ⟨l, h1, h2⟩ => by cases h1; exact ⟨by omega, h2⟩⟩

/-- A is B, but for versions that go where the horizon is h. -/
structure VR (h : Int) (A B : Cont) : Prop where
  keys : A.map (·.1) = B.map (·.1)
  ls : ∀ k, ∃ g, lsOf A k = (lsOf B k).drop g ∧ (g = 0 ∨ g + 1 ≤ upV (lsOf B k) h)
  good : GoodA B
section
variable {h : Int} {A B : Cont}
theorem VR.last (v : VR h A B) (k : List UInt8) : lastA A k = lastA B k := by
  obtain ⟨g, e, hg⟩ := v.ls k
  have hu := upV_le (lsOf B k) h
  unfold lastA
  rw [e]
  rcases hg with rfl | hg
  · rfl
  · rw [List.length_drop, if_neg (by omega), if_neg (by omega), vr_drop, show g + ((lsOf B k).length - g - 1) = (lsOf B k).length - 1 by omega]
theorem VR.at_ (v : VR h A B) (k : List UInt8) {n : Int} (hn : h ≤ n) : atA A k n = atA B k n := by
  obtain ⟨g, e, hg⟩ := v.ls k
  unfold atA
  rw [e]
  rcases hg with rfl | hg
  · rfl
  · have hm := up_mono (ls := lsOf B k) hn
    rw [up_drop (lsOf_rise v.good k) (show g ≤ upV (lsOf B k) n by omega), if_neg (by omega), if_neg (by omega), vr_drop, show g + (upV (lsOf B k) n - g - 1) = upV (lsOf B k) n - 1 by omega]
theorem VR.get (v : VR h A B) (k : List UInt8) {n : Int} (hn : h ≤ n) : getA A k n = getA B k n := by unfold getA; rw [v.at_ k hn]
theorem VR.newest (v : VR h A B) (k : List UInt8) : newestA A k = newestA B k := by unfold newestA; rw [v.last k]
theorem VR.applyE (v : VR h A B) (x : Vn) : applyE A x = applyE B x := by
  have e : lowV (lsOf A x.k.data.toList) x.n ↔ lowV (lsOf B x.k.data.toList) x.n := by rw [low_last, low_last, v.last]
  unfold Go.Proofs.Ythaknohnccmfoaa.applyE
  by_cases h1 : lowV (lsOf B x.k.data.toList) x.n
  · rw [if_pos h1, if_pos (e.2 h1)]
  · rw [if_neg h1, if_neg fun h2 => h1 (e.1 h2)]
theorem VR.len (v : VR h A B) : A.length = B.length := by
  have := congrArg List.length v.keys
  simpa using this
theorem VR.nodup (v : VR h A B) (hd : (B.map (·.1)).Nodup) : (A.map (·.1)).Nodup := by rw [v.keys]; exact hd
theorem VR.scan (v : VR h A B) (hd : (B.map (·.1)).Nodup) (f t : List UInt8) {n : Int} (hn : h ≤ n) : scanA A f t n = scanA B f t n := by
  rw [scan_keys (v.nodup hd), scan_keys hd, v.keys]
  congr 1
  funext k
  rw [v.at_ k hn]
theorem VR.live (v : VR h A B) (hd : (B.map (·.1)).Nodup) : liveA A = liveA B := by
  rw [live_keys (v.nodup hd), live_keys hd, v.keys]
  congr 1
  refine List.map_congr_left fun k _ => ?_
  have h1 := v.last k
  unfold lastA at h1
  unfold liveK
  rw [h1]
theorem VR.apply (v : VR h A B) (x : Vn) : VR h (applyA A x) (applyA B x) := by
  have hg := good_apply v.good x
  have he := v.applyE x
  by_cases h0 : Go.Proofs.Ythaknohnccmfoaa.applyE B x = 0
  · have e1 : applyA A x = addA A x.k.data.toList (verOf x) := by unfold applyA; rw [if_pos (he.trans h0)]
    have e2 : applyA B x = addA B x.k.data.toList (verOf x) := by unfold applyA; rw [if_pos h0]
    rw [e2] at hg
    rw [e1, e2]
    refine ⟨?_, fun k' => ?_, hg⟩
    · unfold addA
      rw [keys_setA, keys_setA, hasK_keys, hasK_keys, v.keys]
      split
      · exact v.keys
      · exact keys_insA _ v.keys
    · rw [lsOf_addA, lsOf_addA]
      by_cases hk : k' = x.k.data.toList
      · rw [if_pos hk, if_pos hk]
        obtain ⟨g, e, hgg⟩ := v.ls x.k.data.toList
        have hu := upV_le (lsOf B x.k.data.toList) h
        refine ⟨g, ?_, ?_⟩
        · rw [e, List.drop_append_of_le_length (by omega)]
        · rcases hgg with h1 | h1
          · exact .inl h1
          · right; rw [up_append]; omega
      · rw [if_neg hk, if_neg hk]; exact v.ls k'
  · have e1 : applyA A x = A := by unfold applyA; rw [if_neg (by rw [he]; exact h0)]
    have e2 : applyA B x = B := by unfold applyA; rw [if_neg h0]
    rw [e1, e2]; exact v
theorem VR.td (v : VR h A B) (hd : (B.map (·.1)).Nodup) (x : Stv) (hk : x.k = 0 ∨ x.k = 2 ∨ x.k = 5 ∨ (h ≤ x.stamp ∧ (x.k = 1 ∨ x.k = 3))) : tdA A x = tdA B x := by
  unfold tdA
  rcases hk with hk | hk | hk | ⟨hn, hk | hk⟩
  · rw [if_pos hk, if_pos hk, v.applyE]
  · rw [if_neg (by omega), if_neg (by omega), if_pos hk, if_neg (by omega), if_neg (by omega), if_pos hk, v.newest]
  · rw [if_neg (by omega), if_neg (by omega), if_neg (by omega), if_neg (by omega), if_neg (by omega), if_pos hk, if_neg (by omega), if_neg (by omega), if_neg (by omega), if_neg (by omega), if_neg (by omega), if_pos hk, v.live hd]
  · rw [if_neg (by omega), if_pos hk, if_neg (by omega), if_pos hk, v.get _ hn]
  · rw [if_neg (by omega), if_neg (by omega), if_neg (by omega), if_pos hk, if_neg (by omega), if_neg (by omega), if_neg (by omega), if_pos hk, v.scan hd _ _ hn]
theorem VR.next (v : VR h A B) (x : Stv) (hk : x.k ≠ 4) : VR h (nextA A x) (nextA B x) := by
  unfold nextA
  by_cases h0 : x.k = 0
  · rw [if_pos h0, if_pos h0]; exact v.apply _
  · rw [if_neg h0, if_neg hk, if_neg h0, if_neg hk]; exact v
end

theorem lsOf_vac (A : Cont) (n : Int) (k : List UInt8) : lsOf (vacA A n) k = pruV (lsOf A k) n := by
  unfold lsOf vacA
  induction A with
  | nil => rfl
  | cons e r ih =>
    rw [List.map_cons]
    by_cases hk : (e.1 == k) = true
    · rw [List.find?_cons_of_pos (by simpa using hk), List.find?_cons_of_pos (by simpa using hk)]; rfl
    · rw [List.find?_cons_of_neg (by simpa using hk), List.find?_cons_of_neg (by simpa using hk)]; exact ih
theorem vac_vr {A : Cont} (hg : GoodA A) (n : Int) : VR n (vacA A n) A := by
  refine ⟨?_, fun k => ⟨goneV (lsOf A k) n, lsOf_vac A n k, ?_⟩, hg⟩
  · unfold vacA; rw [List.map_map]; rfl
  · unfold goneV; omega
/-- Nothing goes a second time. -/
theorem gone_twice {ls : List Ver} (hs : ls.Pairwise fun l m => l.n < m.n) {n m : Int} (hm : m ≤ n) : goneV (pruV ls n) m = 0 := by
  have h1 := up_mono (ls := pruV ls n) hm
  have h2 : upV (pruV ls n) n = upV ls n - goneV ls n := up_drop hs (by unfold goneV; omega)
  unfold goneV at h2 ⊢
  omega
theorem sum_zero {α : Type} : ∀ l : List α, (l.map fun _ => 0).sum = 0
  | [] => rfl
  | _ :: r => by rw [List.map_cons, List.sum_cons, sum_zero r]
theorem gone_again {A : Cont} (hg : GoodA A) {n m : Int} (hm : m ≤ n) : goneA (vacA A n) m = 0 ∧ vacA (vacA A n) m = vacA A n := by
  have h1 : ∀ e ∈ A, goneV (pruV e.2 n) m = 0 := fun e he => gone_twice (hg.st e he) hm
  unfold goneA vacA
  rw [List.map_map, List.map_map]
  refine ⟨?_, List.map_congr_left fun e he => ?_⟩
  · have h2 : A.map ((fun e : List UInt8 × List Ver => goneV e.2 m) ∘ fun e => (e.1, pruV e.2 n)) = A.map fun _ => 0 := List.map_congr_left fun e he => h1 e he
    rw [h2]
    exact sum_zero A
  · simp only [Function.comp]
    show (e.1, pruV (pruV e.2 n) m) = (e.1, pruV e.2 n)
    have : pruV (pruV e.2 n) m = pruV e.2 n := by
      show (pruV e.2 n).drop (goneV (pruV e.2 n) m) = _
      rw [h1 e he]; rfl
    rw [this]
theorem tot_vac (A : Cont) (n : Int) : tot (vacA A n) + goneA A n = tot A := by
  unfold tot goneA vacA
  rw [List.map_map]
  induction A with
  | nil => rfl
  | cons e r ih =>
    rw [List.map_cons, List.map_cons, List.map_cons, List.sum_cons, List.sum_cons, List.sum_cons]
    have h1 : (pruV e.2 n).length + goneV e.2 n = e.2.length := by
      unfold pruV
      rw [List.length_drop]
      have : goneV e.2 n ≤ e.2.length := by unfold goneV; have := upV_le e.2 n; omega
      omega
    simp only [Function.comp] at ih ⊢
    omega
end Go.Proofs.Ythaknohnccmfoaa

namespace Go.Proofs.Ythaknohnccmfoaa
open Go.RowKit Go.Maps

theorem bb_irr (a : List UInt8) : bytesBefore a a = false := by
  cases h : bytesBefore a a with
  | false => rfl
  | true => exact absurd rfl (before_ne h)
theorem bb_up {k b c : List UInt8} (h1 : bytesBefore k b = true) (h2 : bytesBefore c b = false) : bytesBefore k c = true := by
  by_cases e : b = c
  · rw [← e]; exact h1
  · rcases WideAt.bytes_total b c e with h3 | h3
    · exact WideShapes.bytes_trans _ _ _ h1 h3
    · rw [h3] at h2; cases h2
theorem inK_low {a b c k : List UInt8} (hbc : bytesBefore c b = false) (hk : bytesBefore k b = true) : inK a b k = inK a c k ∧ inK b c k = false := by
  unfold inK
  rw [hk, bb_up hk hbc]
  simp
theorem inK_high {a b c k : List UInt8} (hab : bytesBefore b a = false) (hb : b ≠ []) (hk : bytesBefore k b = false) : inK a b k = false ∧ inK b c k = inK a c k := by
  have h1 : bytesBefore k a = false := by
    cases h : bytesBefore k a with
    | false => rfl
    | true => rw [bb_up h hab] at hk; cases hk
  have h2 : b.isEmpty = false := by cases b with
    | nil => exact absurd rfl hb
    | cons x r => rfl
  unfold inK
  rw [hk, h1, h2]
  simp
theorem filter_cut {a b c : List UInt8} (hab : bytesBefore b a = false) (hbc : bytesBefore c b = false) (hb : b ≠ []) : ∀ {C : Cont}, (C.Pairwise fun e f => bytesBefore e.1 f.1 = true) → C.filter (fun e => inK a b e.1) ++ C.filter (fun e => inK b c e.1) = C.filter fun e => inK a c e.1
  | [], _ => rfl
  | e :: r, hp => by
    obtain ⟨h1, h2⟩ := List.pairwise_cons.1 hp
    cases hk : bytesBefore e.1 b with
    | true =>
      obtain ⟨e1, e2⟩ := inK_low (a := a) hbc hk
      have ih := filter_cut hab hbc hb h2
      rw [List.filter_cons, List.filter_cons, List.filter_cons, e1, e2]
      simp only [Bool.false_eq_true, if_false]
      split
      · rw [List.cons_append, ih]
      · exact ih
    | false =>
      have hall : ∀ x ∈ e :: r, bytesBefore x.1 b = false := fun x hx => by
        rcases List.mem_cons.1 hx with rfl | hx
        · exact hk
        · cases h : bytesBefore x.1 b with
          | false => rfl
          | true => rw [WideShapes.bytes_trans _ _ _ (h1 x hx) h] at hk; cases hk
      rw [show (e :: r).filter (fun e => inK a b e.1) = [] from List.filter_eq_nil_iff.2 fun x hx => by rw [(inK_high (c := c) hab hb (hall x hx)).1]; simp, List.nil_append]
      exact List.filter_congr fun x hx => (inK_high hab hb (hall x hx)).2
theorem scan_cut {a b c : List UInt8} (hab : bytesBefore b a = false) (hbc : bytesBefore c b = false) (hb : b ≠ []) {C : Cont} (hp : C.Pairwise fun e f => bytesBefore e.1 f.1 = true) (n : Int) : scanA C a b n ++ scanA C b c n = scanA C a c n := by
  unfold scanA
  rw [← filter_cut hab hbc hb hp, List.filterMap_append]
theorem scan_rise {C : Cont} (hp : C.Pairwise fun e f => bytesBefore e.1 f.1 = true) (a b : List UInt8) (n : Int) : (scanA C a b n).Pairwise fun p q => bytesBefore p.1 q.1 = true := by
  unfold scanA
  refine List.Pairwise.filterMap _ (fun e f hef p hp' q hq => ?_) (hp.filter _)
  obtain ⟨z, _, rfl⟩ := Option.map_eq_some_iff.1 hp'
  obtain ⟨y, _, rfl⟩ := Option.map_eq_some_iff.1 hq
  exact hef
theorem scan_get {C : Cont} (hd : (C.map (·.1)).Nodup) {a b : List UInt8} {n : Int} {p : List UInt8 × List Nat} (h : p ∈ scanA C a b n) : getA C p.1 n = some p.2 := by
  rw [scan_keys hd] at h
  obtain ⟨k, _, h1⟩ := List.mem_filterMap.1 h
  split at h1
  · obtain ⟨z, hz, rfl⟩ := Option.map_eq_some_iff.1 h1
    exact hz
  · cases h1
/-- Is a version the newest of its key, and may its key be got? -/
def newK (C : Cont) (n : Int) (p : List UInt8 × Ver) : Bool := (getA C p.1 n).isSome && ((newestA C p.1).1 == p.2.n)
theorem one_last {ls : List Ver} (hs : ls.Pairwise fun l m => l.n < m.n) (hne : ls ≠ []) : (ls.filter fun l => (vr ls (ls.length - 1)).n == l.n).length = 1 := by
  obtain ⟨r, l, rfl⟩ : ∃ r l, ls = r ++ [l] := ⟨ls.dropLast, ls.getLast hne, (List.dropLast_concat_getLast hne).symm⟩
  have h1 := (List.pairwise_append.1 hs).2.2
  have h2 : vr (r ++ [l]) ((r ++ [l]).length - 1) = l := by
    rw [List.length_append, List.length_singleton, Nat.add_sub_cancel]; exact vr_last r l
  rw [h2, List.filter_append, show r.filter (fun m => l.n == m.n) = [] from List.filter_eq_nil_iff.2 fun m hm => by
    have := h1 m hm l (by simp)
    simp only [beq_iff_eq]
    omega]
  simp
theorem count_scan {C : Cont} (hg : GoodA C) (hd : (C.map (·.1)).Nodup) (n : Int) : ((versA C).filter (newK C n)).length = (scanA C [] [] n).length := by
  have key : ∀ B : Cont, (∀ e ∈ B, e ∈ C) → ((versA B).filter (newK C n)).length = ((B.map (·.1)).filterMap fun k => if inK [] [] k = true then (live (atA C k n)).map fun z => (k, z) else none).length := fun B => by
    induction B with
    | nil => intro _; rfl
    | cons e r ih =>
      intro hB
      have he := hB e (by simp)
      have hi := ih fun x hx => hB x (by simp [hx])
      have hin : inK [] [] e.1 = true := by
        unfold inK
        have : bytesBefore e.1 [] = false := by cases e.1 <;> rfl
        rw [this]; rfl
      unfold versA at hi ⊢
      rw [List.flatMap_cons, List.filter_append, List.length_append, hi, List.map_cons, List.filterMap_cons, if_pos hin]
      have hl := of_nodup hd e he
      have h1 : ((e.2.map fun l => (e.1, l)).filter (newK C n)).length = if (getA C e.1 n).isSome then 1 else 0 := by
        rw [List.filter_map, List.length_map]
        have h3 : ((newK C n) ∘ fun l => (e.1, l)) = fun l => (getA C e.1 n).isSome && ((vr e.2 (e.2.length - 1)).n == l.n) := by
          funext l
          have hne : e.2.length ≠ 0 := fun h => hg.ne e he (List.length_eq_zero_iff.1 h)
          unfold newK newestA lastA Function.comp
          simp only [hl, if_neg hne]
        rw [h3]
        cases (getA C e.1 n).isSome with
        | true => simpa using one_last (hg.st e he) (hg.ne e he)
        | false => simp
      rw [h1]
      unfold getA
      cases live (atA C e.1 n) with
      | none => simp
      | some z => simp [Nat.add_comm]
  rw [scan_keys hd]
  exact key C fun e he => he
end Go.Proofs.Ythaknohnccmfoaa

namespace Go.Proofs.Ythaknohnccmfoaa
open Go.RowKit Go.Maps

section
variable {w z : World} {s : Nat} {A : Cont}
theorem Fil.get (h : Fil w z s A) (hf : Fine A) (key : ByteArray) (hk : key.size ≤ maxLen) (n : Int) : Calls Try.prog 25 #[.pointer (some ⟨s, 0, none⟩), .string key, .int .i64 n] z fun e z' =>
    (∃ a c, e = .returned (.tuple #[.slice a ((getA A key.data.toList n).getD []).length c, .bool (getA A key.data.toList n).isSome]) ∧ RowB z' a ((getA A key.data.toList n).getD [])) ∧ Below z.heap.size z z' := by
  obtain ⟨F, mb, M, hs, rfl, _⟩ := h.st
  refine (get_any hs hf key hk n).mono ?_
  rintro e z' ⟨⟨v, rfl, ho⟩, hb⟩
  obtain ⟨a, c, rfl, hr, _⟩ := ho.row
  exact ⟨⟨a, c, rfl, hr⟩, hb⟩
theorem Fil.newest (h : Fil w z s A) (hf : Fine A) (key : ByteArray) (hk : key.size ≤ maxLen) : Calls Try.prog 27 #[.pointer (some ⟨s, 0, none⟩), .string key] z fun e z' =>
    e = .returned (.tuple #[.int .i64 (newestA A key.data.toList).1, .bool (newestA A key.data.toList).2]) ∧ Below z.heap.size z z' := by
  obtain ⟨F, mb, M, hs, rfl, _⟩ := h.st
  exact newest_any hs hf key hk
theorem Fil.vers (h : Fil w z s A) (hf : Fine A) : Calls Try.prog 15 #[.pointer (some ⟨s, 0, none⟩)] z fun e z' => ∃ a n c ys, e = .returned (.slice a n c) ∧ n = ys.length ∧ RowV z' (.slice a n c) ys ∧ saysV ys = versA A ∧ Below z.heap.size z z' := by
  obtain ⟨F, mb, M, hs, rfl, _⟩ := h.st
  refine (versions_any hs hf).mono ?_
  rintro e z' ⟨⟨v, ys, rfl, ho, hv, hsy⟩, hb⟩
  obtain ⟨a, c, rfl, _⟩ := OwnS.open ho
  exact ⟨a, _, c, ys, rfl, rfl, ⟨OwnS.mono ho (Nat.zero_le _), fun y hy => (hv y hy).mono (Nat.zero_le _)⟩, hsy, hb⟩
theorem Fil.scan (h : Fil w z s A) (hf : Fine A) (fr to : ByteArray) (n : Int) : Calls Try.prog 24 #[.pointer (some ⟨s, 0, none⟩), .string fr, .string to, .int .i64 n] z fun e z' => ∃ a c zp, e = .returned (.slice a zp.length c) ∧ OwP z' z.heap.size (.slice a zp.length c) zp ∧ ValP z' z.heap.size zp ∧ saysP zp = scanA A fr.data.toList to.data.toList n ∧ Below z.heap.size z z' := by
  obtain ⟨F, mb, M, hs, rfl, _⟩ := h.st
  refine (scanned_any hs hf fr to n).mono ?_
  rintro e z' ⟨a, n', c, rfl, ⟨zp, ho, hv, hsy⟩, hb⟩
  obtain ⟨a2, c2, e2, _⟩ := OwnS.open ho
  cases e2
  exact ⟨a, c, zp, rfl, ho, hv, hsy, hb⟩
theorem Fil.rise (h : Fil w z s A) : A.Pairwise fun e f => bytesBefore e.1 f.1 = true := by
  obtain ⟨F, mb, M, hs, rfl, _⟩ := h.st
  unfold abs
  exact List.pairwise_map.2 hs.rise
end
theorem OwP.row {w : World} {B : Nat} {v : Value} {ys : List Pn} (h : OwP w B v ys) (hv : ValP w B ys) : RowP w v ys := ⟨OwnS.mono h (Nat.zero_le _), fun y hy => (hv y hy).mono (Nat.zero_le _)⟩
/-- What a scan tells, by its places. -/
theorem says_get {A : Cont} (hd : (A.map (·.1)).Nodup) {fr to : List UInt8} {n : Int} {zp : List Pn} (hs : saysP zp = scanA A fr to n) {i : Nat} (hi : i < zp.length) : getA A (pn zp i).k.data.toList n = some (pn zp i).z := by
  have hm : ((pn zp i).k.data.toList, (pn zp i).z) ∈ scanA A fr to n := by
    rw [← hs]
    exact List.mem_map.2 ⟨_, pn_mem hi, rfl⟩
  exact scan_get hd hm
theorem says_rise {A : Cont} (hp : A.Pairwise fun e f => bytesBefore e.1 f.1 = true) {fr to : List UInt8} {n : Int} {zp : List Pn} (hs : saysP zp = scanA A fr to n) {i j : Nat} (hij : i < j) (hj : j < zp.length) : bytesBefore (pn zp i).k.data.toList (pn zp j).k.data.toList = true := by
  have h1 := scan_rise hp fr to n
  rw [← hs] at h1
  unfold saysP at h1
  have h2 := List.pairwise_iff_getElem.1 (List.pairwise_map.1 h1) i j (by omega) hj hij
  rwa [pn_get (by omega), pn_get hj] at h2
theorem vers_k {A : Cont} {ys : List Vn} (h : Fine A) (hs : saysV ys = versA A) : ∀ x ∈ ys, x.k.size ≤ 255 := fun x hx => by
  have hm : (x.k.data.toList, verOf x) ∈ versA A := by rw [← hs]; exact List.mem_map.2 ⟨x, hx, rfl⟩
  unfold versA at hm
  obtain ⟨e, he, h1⟩ := List.mem_flatMap.1 hm
  obtain ⟨l, _, h2⟩ := List.mem_map.1 h1
  have h3 := h.kl e he
  rw [(Prod.mk.inj h2).1, Array.length_toList] at h3
  exact h3
/-- How many of the first k versions are their key's newest, which may be got. -/
def cntK (C : Cont) (n : Int) (ys : List Vn) (k : Nat) : Nat := (((saysV ys).take k).filter (newK C n)).length
theorem cntK_zero (C : Cont) (n : Int) (ys : List Vn) : cntK C n ys 0 = 0 := rfl
theorem cntK_step {C : Cont} {n : Int} {ys : List Vn} {k : Nat} (hk : k < ys.length) : cntK C n ys (k + 1) = cntK C n ys k + if newK C n ((vn ys k).k.data.toList, verOf (vn ys k)) = true then 1 else 0 := by
  have hl : k < (saysV ys).length := by unfold saysV; rw [List.length_map]; exact hk
  unfold cntK
  rw [List.take_succ_eq_append_getElem hl, List.filter_append, List.length_append]
  congr 1
  have he : (saysV ys)[k] = ((vn ys k).k.data.toList, verOf (vn ys k)) := by
    simp only [saysV, List.getElem_map, vn_get hk]
  rw [he, List.filter_cons]
  split
  · rfl
  · rfl
theorem cntK_le (C : Cont) (n : Int) (ys : List Vn) (k : Nat) : cntK C n ys k ≤ k := by
  unfold cntK
  exact Nat.le_trans (List.length_filter_le _ _) (by rw [List.length_take]; exact Nat.min_le_left _ _)
theorem cntK_all {C : Cont} (hg : GoodA C) (hd : (C.map (·.1)).Nodup) {n : Int} {ys : List Vn} (hs : saysV ys = versA C) : cntK C n ys ys.length = (scanA C [] [] n).length := by
  unfold cntK
  rw [List.take_of_length_le (by unfold saysV; rw [List.length_map]; exact Nat.le_refl _), hs]
  exact count_scan hg hd n
theorem says_kl {A : Cont} (hf : Fine A) (hd : (A.map (·.1)).Nodup) {fr to : List UInt8} {n : Int} {zp : List Pn} (hs : saysP zp = scanA A fr to n) {i : Nat} (hi : i < zp.length) : (pn zp i).k.size ≤ 255 ∧ (pn zp i).z.length ≤ 4096 := by
  have hm : ((pn zp i).k.data.toList, (pn zp i).z) ∈ scanA A fr to n := by
    rw [← hs]
    exact List.mem_map.2 ⟨_, pn_mem hi, rfl⟩
  refine ⟨?_, (scan_z hf fr to n).2 _ hm⟩
  rw [scan_keys hd] at hm
  obtain ⟨k, hk, h1⟩ := List.mem_filterMap.1 hm
  obtain ⟨e, he, rfl⟩ := List.mem_map.1 hk
  split at h1
  · obtain ⟨z, hz, h2⟩ := Option.map_eq_some_iff.1 h1
    have h3 := hf.kl e he
    rw [(Prod.mk.inj h2).1, Array.length_toList] at h3
    exact h3
  · cases h1
end Go.Proofs.Ythaknohnccmfoaa

namespace Go.Proofs.Ythaknohnccmfoaa
open Go.RowKit



theorem wrap_mod {f i R : Nat} (hf : f < R) (hi : i < R) : (f + i) % R = if f + i < R then f + i else f + i - R := by
  split
  · exact Nat.mod_eq_of_lt (by assumption)
  · rw [Nat.mod_eq_sub_mod (by omega), Nat.mod_eq_of_lt (by omega)]

/-- The ring cur holds the things vs, the first one at f. -/
structure Laid (cur : List Value) (f : Nat) (vs : List Value) : Prop where
  at_ : f < cur.length
  len : vs.length ≤ cur.length
  holds : ∀ i, i < vs.length → cur[(f + i) % cur.length]? = vs[i]?

theorem Laid.push {cur : List Value} {f : Nat} {vs : List Value} (h : Laid cur f vs) (hl : vs.length < cur.length) (x : Value) :
    Laid (cur.set ((f + vs.length) % cur.length) x) f (vs ++ [x]) := by
  have hf := h.at_
  refine ⟨by simpa using hf, by simp; omega, fun i hi => ?_⟩
  have hm : (f + vs.length) % cur.length < cur.length := Nat.mod_lt _ (by omega)
  simp only [List.length_append, List.length_cons, List.length_nil] at hi
  rw [List.length_set]
  by_cases e : i = vs.length
  · subst e
    rw [List.getElem?_set_self hm, List.getElem?_append_right (Nat.le_refl _)]
    simp
  · have hne : (f + vs.length) % cur.length ≠ (f + i) % cur.length := by
      rw [wrap_mod hf hl, wrap_mod hf (by omega)]
      split <;> split <;> omega
    rw [List.getElem?_set_ne hne, List.getElem?_append_left (by omega)]
    exact h.holds i (by omega)

theorem Laid.first {cur : List Value} {f : Nat} {v : Value} {vs : List Value} (h : Laid cur f (v :: vs)) : cur[f]? = some v := by
  have := h.holds 0 (by simp)
  rwa [Nat.add_zero, Nat.mod_eq_of_lt h.at_] at this

theorem Laid.pop {cur : List Value} {f : Nat} {v : Value} {vs : List Value} (h : Laid cur f (v :: vs)) (z : Value) :
    Laid (cur.set f z) ((f + 1) % cur.length) vs := by
  have hf := h.at_
  have hl := h.len
  simp only [List.length_cons] at hl
  have hm : (f + 1) % cur.length < cur.length := Nat.mod_lt _ (by omega)
  refine ⟨by simpa using hm, by simp; omega, fun i hi => ?_⟩
  rw [List.length_set]
  have e : ((f + 1) % cur.length + i) % cur.length = (f + (i + 1)) % cur.length := by
    rw [Nat.mod_add_mod]; congr 1; omega
  rw [e]
  have hne : f ≠ (f + (i + 1)) % cur.length := by
    rw [wrap_mod hf (by omega)]
    split <;> omega
  rw [List.getElem?_set_ne hne]
  have := h.holds (i + 1) (by simpa using hi)
  simpa using this

theorem Laid.fresh (vs zs : List Value) (h : 0 < (vs ++ zs).length) : Laid (vs ++ zs) 0 vs := by
  refine ⟨h, by simp, fun i hi => ?_⟩
  rw [Nat.zero_add, Nat.mod_eq_of_lt (by simp; omega), List.getElem?_append_left hi]

/-- How many lie ahead of the ring's end. -/
def aheadN (n f R : Nat) : Nat := min n (R - f)
theorem aheadN_le (n f R : Nat) : aheadN n f R ≤ n := Nat.min_le_left _ _
theorem aheadN_le' (n f R : Nat) : aheadN n f R ≤ R - f := Nat.min_le_right _ _
theorem Laid.line1 {cur : List Value} {f : Nat} {vs : List Value} (h : Laid cur f vs) {j : Nat} (hj : j < aheadN vs.length f cur.length) : cur[f + j]? = vs[j]? := by
  have h1 := aheadN_le vs.length f cur.length
  have h2 := aheadN_le' vs.length f cur.length
  have := h.holds j (by omega)
  rwa [Nat.mod_eq_of_lt (by omega)] at this
theorem Laid.line2 {cur : List Value} {f : Nat} {vs : List Value} (h : Laid cur f vs) {j : Nat} (hj : aheadN vs.length f cur.length + j < vs.length) : cur[j]? = vs[aheadN vs.length f cur.length + j]? := by
  have h3 := h.len
  have h4 := h.at_
  have h2 : aheadN vs.length f cur.length = cur.length - f := by unfold aheadN at hj ⊢; omega
  have := h.holds _ hj
  rw [h2] at this hj ⊢
  rw [wrap_mod h4 (by omega), if_neg (by omega)] at this
  rw [← this]
  congr 1
  omega
theorem splice2 {α : Type} (Z X Y : List α) (_h : X.length + Y.length ≤ Z.length) : splice (splice Z 0 X) X.length Y = X ++ (Y ++ Z.drop (X.length + Y.length)) := by
  have e1 : splice Z 0 X = X ++ Z.drop X.length := by simp [splice]
  rw [e1]
  unfold splice
  rw [List.take_left', List.drop_append]
  · simp
  · rfl

/-- Only the blocks b and g are changed, and new ones made. -/
structure Only (b g : Nat) (w w' : World) : Prop where
  os : w'.os = w.os
  tape : w'.tape = w.tape
  output : w'.output = w.output
  size : w.heap.size ≤ w'.heap.size
  block : ∀ k, k < w.heap.size → k ≠ b → k ≠ g → w'.heap[k]? = w.heap[k]?
theorem Only.refl (b g : Nat) (w : World) : Only b g w w := ⟨rfl, rfl, rfl, Nat.le_refl _, fun _ _ _ _ => rfl⟩
theorem Only.of_below {b g : Nat} {w w' : World} (h : Below w.heap.size w w') : Only b g w w' := ⟨h.os, h.tape, h.output, h.size, fun k hk _ _ => h.block k hk⟩
theorem Only.trans {b g g' : Nat} {w w1 w2 : World} (h : Only b g w w1) (k : Only b g' w1 w2) (hg : g' = g ∨ w.heap.size ≤ g') : Only b g w w2 :=
  ⟨k.os.trans h.os, k.tape.trans h.tape, k.output.trans h.output, Nat.le_trans h.size k.size, fun i hi h1 h2 => (k.block i (Nat.lt_of_lt_of_le hi h.size) h1 (by rcases hg with e | e; subst e; exact h2; omega)).trans (h.block i hi h1 h2)⟩
theorem Only.setB {b g : Nat} {w w1 : World} (h : Only b g w w1) (i : Nat) (u : Value) : Only b g w (w1.setCell ⟨b, i, none⟩ u) :=
  ⟨h.os, h.tape, h.output, by simpa using h.size, fun k hk h1 h2 => (Below.heap_setCell _ _ _ k h1).trans (h.block k hk h1 h2)⟩
theorem Only.setG {b g : Nat} {w w1 : World} (h : Only b g w w1) (i : Nat) (u : Value) : Only b g w (w1.setCell ⟨g, i, none⟩ u) :=
  ⟨h.os, h.tape, h.output, by simpa using h.size, fun k hk h1 h2 => (Below.heap_setCell _ _ _ k h2).trans (h.block k hk h1 h2)⟩
theorem Only.setN {b g c : Nat} {w w1 : World} (h : Only b g w w1) (hc : w.heap.size ≤ c) (i : Nat) (u : Value) : Only b g w (w1.setCell ⟨c, i, none⟩ u) :=
  ⟨h.os, h.tape, h.output, by simpa using h.size, fun k hk h1 h2 => (Below.heap_setCell _ _ _ k (by simp; omega)).trans (h.block k hk h1 h2)⟩
theorem Only.drew {b g : Nat} {w w1 : World} (h : Only b g w w1) : Only b g w w1.drew := ⟨h.os, h.tape, h.output, h.size, h.block⟩
theorem Only.below {b g B : Nat} {w w1 : World} (h : Only b g w w1) (hb : B ≤ b) (hg : B ≤ g) (hB : B ≤ w.heap.size) : Below B w w1 :=
  ⟨h.os, h.tape, h.output, h.size, fun k hk => h.block k (by omega) (by omega) (by omega)⟩
theorem Only.cell {b g : Nat} {w w1 : World} (h : Only b g w w1) {p : Addr} (hp : p.block < w.heap.size) (h1 : p.block ≠ b) (h2 : p.block ≠ g) : w1.cell? p = w.cell? p :=
  World.cell?_of_block (w := w) (h.block p.block hp h1 h2)

/-- What New answers. -/
def newE (most : Int) : Int := if most < 0 then 2 else if 65536 < most then 3 else 0


/-- Texts are alike just if their bytes are. -/
theorem text_eq (x y : ByteArray) : (x.toList == y.toList) = decide (x = y) := by
  rw [Bool.eq_iff_iff, beq_iff_eq, decide_eq_true_iff, ByteArray.toList_eq, ByteArray.toList_eq]
  exact ⟨fun h => ByteArray.ext (Array.toList_inj.mp h), fun h => by rw [h]⟩
theorem num_eq (x y : Int) : (x == y) = decide (x = y) := by
  rw [Bool.eq_iff_iff, beq_iff_eq, decide_eq_true_iff]

theorem made_list (z : Value) (n : Nat) : madeCells #[z] n = (List.replicate n z).toArray := by
  apply Array.ext_getElem?
  intro i
  by_cases h : i < n
  · simp [madeCells, h, Nat.mod_one]
  · simp [madeCells, h]

end Go.Proofs.Ythaknohnccmfoaa

namespace Go.Proofs.Ythaknohnccmfoaa
open Go.RowKit

/-- A thing as a value. -/
def encS (x : ByteArray) : Value := .string x
theorem infoQS : (Try.prog.info? 9).map (fun i => (i.zero, i.size, i.bytes)) = some (some (.string .empty), 1, 16) := by kernel_rfl
































































































































































end Go.Proofs.Ythaknohnccmfoaa

namespace Go.Proofs.Ythaknohnccmfoaa
open Go.RowKit

/-- A row of texts: the slice's address and its elements (none: whatever the address). -/
def RwS (w : World) (a : Option Addr) (xs : List ByteArray) : Prop :=
  xs.length = 0 ∨ ∃ b o, a = some ⟨b, o, none⟩ ∧ b < w.heap.size ∧ ∀ i (h : i < xs.length), w.cell? ⟨b, o + i, none⟩ = some (.string xs[i])
theorem RwS.below {w w' : World} {a : Option Addr} {xs : List ByteArray} (h : RwS w a xs) (hb : Below w.heap.size w w') : RwS w' a xs := by
  rcases h with h | ⟨b, o, e, hlt, hc⟩
  · exact .inl h
  · exact .inr ⟨b, o, e, Nat.lt_of_lt_of_le hlt hb.size, fun i hi => by rw [hb.cell (p := ⟨b, o + i, none⟩) hlt]; exact hc i hi⟩
theorem RwS.here {w : World} {a : Option Addr} {xs : List ByteArray} (h : RwS w a xs) {i : Nat} (hi : i < xs.length) :
    ∃ b o, a = some ⟨b, o, none⟩ ∧ b < w.heap.size ∧ ∀ i (h : i < xs.length), w.cell? ⟨b, o + i, none⟩ = some (.string xs[i]) := by
  rcases h with h | h
  · omega
  · exact h

/-- v is a slice of the call's own that holds xs. -/
def OwS (w : World) (base : Nat) (v : Value) (xs : List ByteArray) : Prop := w.ownsRow base 9 1 v xs.length (xs.map encS)
theorem OwS.row {w : World} {base : Nat} {v : Value} {xs : List ByteArray} (h : OwS w base v xs) : ∃ a cap, v = .slice a xs.length cap ∧ RwS w a xs ∧ xs.length ≤ cap ∧ (a = none → xs.length = 0 ∧ cap = 0) := by
  rcases h.2 with ⟨rfl, h0⟩ | ⟨g, cap, cur, rfl, _, hh, hn, hm, _, ht⟩
  · exact ⟨none, 0, by rw [h0], .inl h0, by omega, fun _ => ⟨h0, rfl⟩⟩
  · refine ⟨_, cap, rfl, .inr ⟨g, 0, rfl, (Array.getElem?_eq_some_iff.1 hh).1, fun i hi => ?_⟩, hn, fun e => by cases e⟩
    rw [Nat.zero_add, cell_of_row _ _ _ _ _ _ hh]
    have h3 : (cur.toList.take (xs.length * 1))[i]? = (xs.map encS)[i]? := by rw [ht]
    rw [List.getElem?_take_of_lt (by omega)] at h3
    rw [← Array.getElem?_toList, h3, List.getElem?_map, List.getElem?_eq_getElem hi]
    rfl
theorem OwS.ge {w : World} {base : Nat} {v : Value} {xs : List ByteArray} (h : OwS w base v xs) {j : Nat} (hj : v.ownBlock = some j) : base ≤ j := (h.lt j hj).1
theorem OwS.keep {w w' : World} {base : Nat} {v : Value} {xs : List ByteArray} {r : Option Nat} (h : OwS w base v xs) (hg : w.grownBy w' r) (hne : ∀ j, v.ownBlock = some j → r ≠ some j) : OwS w' base v xs := by
  refine ⟨h.1, ?_⟩
  rcases h.2 with h2 | ⟨g, cap, cur, rfl, h3, hh, h4⟩
  · exact .inl h2
  · have hlt := (Array.getElem?_eq_some_iff.1 hh).1
    exact .inr ⟨g, cap, cur, rfl, h3, (hg.block g hlt (fun e => hne g rfl e.symm)).trans hh, h4⟩
theorem OwS.heap {w w' : World} {base : Nat} {v : Value} {xs : List ByteArray} (h : OwS w base v xs) (hg : ∀ j, v.ownBlock = some j → w'.heap[j]? = w.heap[j]?) : OwS w' base v xs := by
  refine ⟨h.1, ?_⟩
  rcases h.2 with h2 | ⟨g, cap, cur, rfl, h3, hh, h4⟩
  · exact .inl h2
  · exact .inr ⟨g, cap, cur, rfl, h3, (hg g rfl).trans hh, h4⟩
theorem OwS.inside {w : World} {base : Nat} {v : Value} {xs : List ByteArray} (h : OwS w base v xs) : ∀ j, v.ownBlock = some j → j < w.heap.size := by
  rcases h.2 with ⟨rfl, _⟩ | ⟨g, cap, cur, rfl, h3, hh, h4⟩
  · intro j e; cases e
  · intro j e; cases e; exact (Array.getElem?_eq_some_iff.1 hh).1
theorem OwS.below {w w' : World} {base : Nat} {v : Value} {xs : List ByteArray} (h : OwS w base v xs) (hb : Below w.heap.size w w') : OwS w' base v xs :=
  h.heap fun j hj => hb.block j (h.inside j hj)
theorem OwS.mono {w : World} {base base' : Nat} {v : Value} {xs : List ByteArray} (h : OwS w base v xs) (hb : base' ≤ base) : OwS w base' v xs := by
  refine ⟨h.1, ?_⟩
  rcases h.2 with h2 | ⟨g, cap, cur, rfl, h3, h4⟩
  · exact .inl h2
  · exact .inr ⟨g, cap, cur, rfl, Nat.le_trans hb h3, h4⟩
theorem OwS.nil (w : World) (base : Nat) : OwS w base (.slice none 0 0) [] := ⟨rfl, .inl ⟨rfl, rfl⟩⟩
theorem OwS.empty (w : World) : OwS (w.alloc (.cells #[] 9)) w.heap.size (.slice (some ⟨w.heap.size, 0, none⟩) 0 0) [] :=
  ⟨rfl, .inr ⟨w.heap.size, 0, #[], rfl, Nat.le_refl _, heap_alloc_new w _, by simp, by simp [maxLen], rfl, rfl⟩⟩

theorem wpList_append_rowS (w : World) {ops : Array Oper} {rest : List Oper} {o : Oper} {act : Act} {Q : Exit → Act → World → Prop} (hgd : o.guard = none) (s x : Operand)
    (ho : o.op = .call { callee := .builtin .append, args := #[s, x], argTypes := #[57, 57] })
    (base : Nat) (v : Value) (xs : List ByteArray) (hs : act.eval s = v) (hown : OwS w base v xs) (a : Option Addr) (cap : Nat) (zs : List ByteArray) (hx : act.eval x = .slice a zs.length cap) (hr : RwS w a zs) (hnil : a = none → zs.length = 0 ∧ cap = 0)
    (hl : 16 * (xs.length + zs.length) ≤ 140737488355328) (hbase : base ≤ w.heap.size)
    (h : ∀ v' w', OwS w' base v' (xs ++ zs) → w.grownBy w' v.ownBlock → (v'.ownBlock = v.ownBlock ∨ v'.ownBlock = some w.heap.size) → wpList Try.prog ops Q rest (act.put o.dst v') w') :
    wpList Try.prog ops Q (o :: rest) act w := by
  obtain ⟨i0, hi, hz0, hz1, hz2⟩ := info_parts infoQS
  cases a with
  | none =>
    obtain ⟨h1, h2⟩ := hnil rfl
    have hzs : zs = [] := List.eq_nil_of_length_eq_zero h1
    subst hzs
    subst h2
    refine wpList_append_own_none hgd s x 57 ho base 9 i0 1 Try.underlying57 hi v xs.length (xs.map encS) hs hown hx ?_
    exact h v w (by rw [List.append_nil]; exact hown) ⟨rfl, rfl, rfl, Nat.le_refl _, fun _ _ _ => rfl⟩ (.inl rfl)
  | some ad =>
    have hnews : ∀ j u, (zs.map encS)[j]? = some u → w.cell? (ad.add j) = some u := fun j u hu => by
      have hj : j < zs.length := by have := (List.getElem?_eq_some_iff.1 hu).1; simpa using this
      obtain ⟨b, o, e, hlt, hc⟩ := hr.here hj
      cases e
      rw [Addr.add_lit, hc j hj]
      rw [List.getElem?_map, List.getElem?_eq_getElem hj] at hu
      exact hu
    have hone : ∀ u ∈ zs.map encS, u.oneCell' = true := fun u hu => by
      obtain ⟨z, _, rfl⟩ := List.mem_map.1 hu
      rfl
    refine wpList_append_own_at _ hgd s x 57 ho base 9 i0 (.string .empty) 1 16 Try.underlying57 hi hz0 hz1 hz2 rfl (by omega) v xs.length (xs.map encS) hs hown ad zs.length cap (zs.map encS) hx (by simp) hnews hone (by unfold maxLen; omega) (by omega) hbase ?_
    intro v4 w4 hown4 hgrow4 hnil4 hat4
    exact h v4 w4 (by unfold OwS; simpa using hown4) hgrow4 hat4

theorem wpList_append_oneS (w : World) {ops : Array Oper} {rest : List Oper} {o : Oper} {act : Act} {Q : Exit → Act → World → Prop} (hgd : o.guard = none) (s x : Operand)
    (ho : o.op = .call { callee := .builtin .append, args := #[s, x], argTypes := #[57, 57] })
    (base : Nat) (v : Value) (xs : List ByteArray) (hs : act.eval s = v) (hown : OwS w base v xs) (z : ByteArray)
    (hx : act.eval x = .slice (some ⟨w.heap.size, 0, none⟩) 1 1)
    (hl : 16 * (xs.length + 1) ≤ 140737488355328) (hbase : base ≤ w.heap.size)
    (h : ∀ v' w', OwS w' base v' (xs ++ [z]) → (w.alloc (.cells #[.string z] 9)).grownBy w' v.ownBlock → (v'.ownBlock = v.ownBlock ∨ v'.ownBlock = some (w.heap.size + 1)) → wpList Try.prog ops Q rest (act.put o.dst v') w') :
    wpList Try.prog ops Q (o :: rest) act (w.alloc (.cells #[.string z] 9)) := by
  have hb : Below w.heap.size w (w.alloc (.cells #[.string z] 9)) := (Below.refl _ _).alloc (Nat.le_refl _) _
  refine wpList_append_rowS (w.alloc (.cells #[.string z] 9)) hgd s x ho base v xs hs (hown.below hb) (some ⟨w.heap.size, 0, none⟩) 1 [z] hx (.inr ⟨w.heap.size, 0, rfl, by simp, fun i hi => ?_⟩) (fun e => by cases e) (by simpa using hl) (by simp; omega) ?_
  · obtain rfl : i = 0 := by simp at hi; omega
    rw [cell_of_row _ _ _ _ _ _ (heap_alloc_new w _)]
    rfl
  · intro v' w' h1 h2 h3
    exact h v' w' h1 h2 (by simpa using h3)

end Go.Proofs.Ythaknohnccmfoaa

namespace Go.Proofs.Ythaknohnccmfoaa
open Go.RowKit Go.Maps Go.Sort Go.Shelf

def txtL (xs : List ByteArray) : List (List UInt8) := xs.map (·.data.toList)
def txtB (ls : List (List UInt8)) : List ByteArray := ls.map fun l => ⟨l.toArray⟩
theorem encS_txt (x : ByteArray) : encStr x.data.toList = encS x := by
  show Value.string ⟨x.data.toList.toArray⟩ = Value.string x
  rw [Array.toArray_toList]

theorem textsSort_any {w : World} {B : Nat} {v : Value} {xs : List ByteArray} (h : OwS w B v xs) (hl : xs.length < 4611686018427387904) :
    Calls Try.prog 28 #[v] w fun e w' => e = .returned (.tuple #[]) ∧ ∃ zs : List ByteArray, zs.length = xs.length ∧ zs.Pairwise (fun x y => bytesBefore y.data.toList x.data.toList = false) ∧ OwS w' B v zs ∧ w.grownBy w' v.ownBlock := by
  rcases h.2 with ⟨rfl, h0⟩ | ⟨g, cap, cur, rfl, hB, hh, hn, hcap, hs, ht⟩
  · obtain rfl := List.length_eq_zero_iff.1 h0
    refine (AnyM.slices_Sort_string_none laysSort none 0 w).mono ?_
    rintro e w' ⟨rfl, rfl⟩
    exact ⟨rfl, [], rfl, List.Pairwise.nil, OwS.nil _ _, ⟨rfl, rfl, rfl, Nat.le_refl _, fun _ _ _ => rfl⟩⟩
  · have hcell : ∀ i (hi : i < xs.length), cur[i]? = some (encS xs[i]) := fun i hi => by
      have h3 : (cur.toList.take (xs.length * 1))[i]? = (xs.map encS)[i]? := by rw [ht]
      rw [List.getElem?_take_of_lt (by omega)] at h3
      rw [← Array.getElem?_toList, h3, List.getElem?_map, List.getElem?_eq_getElem hi]
      rfl
    have hH : Holds encStr w g 0 (txtL xs).toArray := by
      intro j hj
      have hj2 : j < xs.length := by simpa [txtL] using hj
      refine ⟨?_, frozen_of_row _ _ _ _ _ hh⟩
      rw [Nat.zero_add, cell_of_row _ _ _ _ _ _ hh, hcell j hj2, getElem!_pos (txtL xs).toArray j hj]
      simp only [txtL, List.getElem_toArray, List.getElem_map]
      rw [encS_txt]
    have hg : g < w.heap.size := (Array.getElem?_eq_some_iff.1 hh).1
    have hso := AnyM.slices_Sort_string laysSort g 0 cap (txtL xs) w hH hg (by simpa [txtL] using hl)
    rw [show (txtL xs).length = xs.length by simp [txtL]] at hso
    refine hso.mono ?_
    rintro e w' ⟨rfl, n, os, rfl⟩
    obtain ⟨ls, hls⟩ : ∃ ls, ls = (txtL xs).mergeSort fun x y => decide (x ≤ y) := ⟨_, rfl⟩
    rw [← hls]
    have hll : ls.length = xs.length := by rw [hls, List.length_mergeSort]; simp [txtL]
    have hsd : ls.Pairwise fun x y => bytesBefore y x = false := by
      have h1 : ls.Pairwise fun x y => decide (x ≤ y) = true := by
        rw [hls]
        exact List.pairwise_mergeSort (fun a b c hab hbc => by simp only [decide_eq_true_eq] at *; exact List.le_trans hab hbc) (fun a b => by simp only [Bool.or_eq_true, decide_eq_true_eq]; exact List.le_total a b) _
      refine h1.imp fun {x y} hxy => ?_
      cases h2 : bytesBefore y x with
      | false => rfl
      | true => exact absurd (before_lt.1 h2) (List.not_lt.2 (of_decide_eq_true hxy))
    have hgg : g < (putRow encStr (Sort.ahead w n) g 0 ls.toArray).heap.size := by simp [putRow, mapBlock, Sort.ahead, hg]
    have hat : (grow (putRow encStr (Sort.ahead w n) g 0 ls.toArray) os).heap[g]? = some (.cells (putCells encStr 0 ls.toArray cur) 9 (0, 0)) := by
      rw [Sort.heap_grow_old _ _ hgg]
      simp [putRow, mapBlock, Sort.ahead, Array.getElem?_modify, hh, onCells]
    refine ⟨rfl, txtB ls, by simp [txtB, hll], ?_, ⟨by simp [txtB], .inr ⟨g, cap, _, by simp [txtB, hll], hB, hat, by simpa [txtB, hll] using hn, hcap, by simpa [putCells] using hs, ?_⟩⟩, ?_⟩
    · unfold txtB
      refine List.pairwise_map.2 (hsd.imp fun {x y} hxy => ?_)
      simpa using hxy
    · apply List.ext_getElem?
      intro i
      by_cases hi : i < xs.length
      · rw [List.getElem?_take_of_lt (by simp [txtB, hll]; omega)]
        have hil : i < ls.length := by omega
        have hic : i < cur.size := by omega
        rw [Array.getElem?_toList]
        simp only [putCells, Array.getElem?_mapIdx, Array.getElem?_eq_getElem hic, Option.map_some]
        rw [if_pos ⟨Nat.zero_le _, by simpa using hil⟩, List.getElem?_map]
        simp only [txtB, List.getElem?_map, List.getElem?_eq_getElem hil, Option.map_some, Nat.sub_zero]
        rw [getElem!_pos ls.toArray i (by simpa using hil)]
        rfl
      · rw [List.getElem?_eq_none (by simp [txtB, hll]; omega), List.getElem?_eq_none (by simp [txtB, hll]; omega)]
    · refine ⟨rfl, rfl, rfl, ?_, fun k hk hne => ?_⟩
      · simp [grow, putRow, mapBlock, Sort.ahead]
      · have hne2 : g ≠ k := fun e => hne (by rw [e]; rfl)
        rw [Sort.heap_grow_old _ _ (by simpa [putRow, mapBlock, Sort.ahead] using hk)]
        simp [putRow, mapBlock, Sort.ahead, Array.getElem?_modify, hne2]
end Go.Proofs.Ythaknohnccmfoaa

namespace Go.Proofs.Ythaknohnccmfoaa
open Go.RowKit Go.Maps

theorem srcP_all {w : World} {B : Nat} {v : Value} {ys : List Pn} (h : OwP w B v ys) : Src Try.prog 2 33 v ys.length (celP ys) w := by
  rcases h.2 with ⟨rfl, h0⟩ | ⟨g, o, cap, cur, rfl, _, hh, hn, _, hs, hc⟩
  · obtain rfl := List.length_eq_zero_iff.1 h0
    exact Src.ofNil w Try.underlying33 0
  · have hl := celP_len ys
    refine Src.ofSlice w Try.underlying33 ⟨g, o, none⟩ ys.length cap (celP ys) hl (fun j u hj => ?_) fun u hu => by
      obtain ⟨y, _, hv⟩ := List.mem_flatMap.1 hu
      simp only [duoP, List.mem_cons, List.not_mem_nil, or_false] at hv
      rcases hv with rfl | rfl <;> rfl
    have hj2 : j < ys.length * 2 := by rw [← hl]; exact (List.getElem?_eq_some_iff.1 hj).1
    rw [show (⟨g, o, none⟩ : Addr).add j = ⟨g, o + j, none⟩ from Addr.add_mid g o j, cell_of_row _ _ _ _ _ _ hh, hc j (by omega)]
    exact hj
theorem app_pairs {z : World} {B B2 : Nat} {v1 v2 : Value} {xs ys : List Pn} (h1 : OwP z B v1 xs) (hx : ValP z B xs) (h2 : OwP z B2 v2 ys) (hy : ValP z B ys) (hl : xs.length + ys.length ≤ 4000000000000) (hB : B ≤ z.heap.size) :
    ∃ a5 c5 w5, (Builtin.append_ #[33, 33] 33 #[v1, v2]).run Try.prog z = .ok (.slice a5 (xs ++ ys).length c5) w5 ∧ OwP w5 B (.slice a5 (xs ++ ys).length c5) (xs ++ ys) ∧ ValP w5 B (xs ++ ys) ∧ z.grownBy w5 v1.ownBlock := by
  obtain ⟨v5, w5, hrun, ho5, hg5, _⟩ := run_append_S (P := Try.prog) 33 33 33 _ Try.underlying33 infoPn rfl h1 _ _ _ (srcP_all h2) (by unfold maxLen; omega) (by omega) hB
  have ho6 : OwP w5 B v5 (xs ++ ys) := by
    unfold OwP; rw [List.length_append, celP_append]; exact ho5
  obtain ⟨a5, c5, ev, _⟩ := OwnS.open ho6
  subst ev
  refine ⟨a5, c5, w5, hrun, ho6, ?_, hg5⟩
  have hv : ValP z B (xs ++ ys) := fun p hp => by
    rcases List.mem_append.1 hp with hp | hp
    · exact hx p hp
    · exact hy p hp
  exact ValP.hold hv fun j cur hj => hg5.block j (Array.getElem?_eq_some_iff.1 hj).1 fun e => by
    obtain ⟨cur', h3⟩ := OwnS.type h1 e.symm
    rw [hj] at h3; cases h3
theorem Fil.scanB {w z0 z : World} {s : Nat} {A : Cont} (h : Fil w z0 s A) (hf : Fine A) (fr to : ByteArray) (n : Int) (hz : Below z0.heap.size z0 z) : Calls Try.prog 24 #[.pointer (some ⟨s, 0, none⟩), .string fr, .string to, .int .i64 n] z fun e z' => ∃ a c zp, e = .returned (.slice a zp.length c) ∧ OwP z' z0.heap.size (.slice a zp.length c) zp ∧ ValP z' z0.heap.size zp ∧ saysP zp = scanA A fr.data.toList to.data.toList n ∧ Below z.heap.size z z' := by
  refine ((h.below hz).scan hf fr to n).mono ?_
  rintro e z' ⟨a, c, zp, rfl, ho, hv, hs, hb⟩
  exact ⟨a, c, zp, rfl, OwnS.mono ho hz.size, fun y hy => (hv y hy).mono hz.size, hs, hb⟩
theorem says_z {A : Cont} (hf : Fine A) {fr to : List UInt8} {n : Int} {zp : List Pn} (hs : saysP zp = scanA A fr to n) : zp.length ≤ 4000000000000 ∧ ∀ x ∈ zp, x.z.length ≤ 4096 := by
  obtain ⟨h1, h2⟩ := scan_z hf fr to n
  rw [← hs] at h1 h2
  unfold saysP at h1 h2
  rw [List.length_map] at h1
  exact ⟨h1, fun x hx => h2 _ (List.mem_map.2 ⟨x, hx, rfl⟩)⟩
theorem says_app (xs ys : List Pn) : saysP (xs ++ ys) = saysP xs ++ saysP ys := by unfold saysP; rw [List.map_append]
end Go.Proofs.Ythaknohnccmfoaa

namespace Go.Proofs.Ythaknohnccmfoaa.storeScans
open Go.RowKit Go.Maps

theorem bl_no {K L : ByteArray} (h : bytesBefore K.data.toList L.data.toList = true) : Op.bytesLess L.toList K.toList = false ∧ Op.bytesLess K.toList L.toList = true ∧ ¬ K = L := by
  refine ⟨?_, (bless K L).trans h, fun e => before_ne h (by rw [e])⟩
  rw [bless]
  cases h2 : bytesBefore L.data.toList K.data.toList with
  | false => rfl
  | true => exact absurd (WideShapes.bytes_trans _ _ _ h h2) (by rw [bb_irr]; decide)

set_option maxRecDepth 100000 in
set_option maxHeartbeats 8000000 in
theorem walk (a : Option Addr) (n c : Nat) (A : Nat → Vsn) (b : Option Addr) (cb : Nat) (th : List ByteArray) (st : Int) (_hst : -9223372036854775808 ≤ st ∧ st ≤ 9223372036854775807) (w : World) (ha : CameVsn w a n A) (hb : RwS w b th) (hbc : th.length ≤ cb) :
    Calls Try.prog 7 #[.slice a n c, .slice b th.length cb, .int .i64 st] w fun e w' => e = .returned (.bool true) ∧ Below w.heap.size w w' := by
  have hn := ha.size
  have hfx := fixed_any w
  have HA := hide_it ha
  have HBD := hide_it hb
  clear ha hb
  obtain ⟨T, hT⟩ : ∃ T, T = th.length := ⟨_, rfl⟩
  rw [← hT] at hbc ⊢
  have HT := hide_it hT
  clear hT
  go_enter Try.func7, Try.ntmps7
  go_wp2_with fail
  refine hfx.mono ?_
  rintro e w1 ⟨rfl, hb1⟩
  have HB1 := hide_it hb1
  have hf1 := filled_any a n c A w1 (HA.out.below hb1)
  clear hfx hb1
  go_wp2_with fail
  refine hf1.mono ?_
  rintro e w2 ⟨rfl, hF, hK⟩
  obtain ⟨s, hs⟩ : ∃ s, s = w1.heap.size := ⟨_, rfl⟩
  have HG := hide_it (good_fil A n)
  rw [← hs] at hF ⊢
  clear hs hf1 HA
  have HN := hide_it hF.nodup
  have HR := hide_it hF.rise
  have HFi := hide_it (hK.fine (by omega))
  clear hK
  generalize filA A n = C at *
  have hsc := hF.scan HFi.out ⟨#[]⟩ ⟨#[]⟩ st
  have HB2 := hide_it (HB1.out.trans (hF.bel.mono HB1.out.size))
  have HF := hide_it hF
  clear hF HB1
  go_wp2_with fail
  refine hsc.mono ?_
  rintro e w3 ⟨aa, ac, zp, rfl, hzo, hzv, hzs, hb3⟩
  have HF3 := hide_it (HF.out.below hb3)
  have HB3 := hide_it (HB2.out.trans (hb3.mono HB2.out.size))
  have HP := hide_it (hzo.row hzv)
  have HS := hide_it (show saysP zp = scanA C [] [] st from hzs)
  have hzl : zp.length ≤ 4000000000000 := by
    have h1 := congrArg List.length hzs
    unfold saysP at h1
    rw [List.length_map] at h1
    rw [h1]; exact (scan_z HFi.out _ _ st).1
  clear hsc hzo hzv hzs hb3 HF HB2
  obtain ⟨N, hN⟩ : ∃ N, N = zp.length := ⟨_, rfl⟩
  rw [← hN] at hzl ⊢
  have HNN := hide_it hN
  clear hN
  go_wp2_with fail
  go_loopw [31, 9, 10, 11, 12] (fun i _ _ _ _ wr => ∃ k : Nat, k ≤ N ∧ i = .int .i64 (k : Int) ∧ Hid (Below w3.heap.size w3 wr)) (fun i _ _ _ _ _ => N - (intOf i).toNat)
  case atStart => exact ⟨0, by omega, rfl, hide_it (Below.refl _ _)⟩
  case round =>
    obtain ⟨k, hk, rfl, HW⟩ := hrel
    by_cases hlt : k < N
    · have hki : (k : Int) < (N : Int) := by omega
      have hw1 : IntKind.i64.wrap ((k : Int) + 1) = (k : Int) + 1 := i64_in (by omega) (by omega)
      have hkz : k < zp.length := by rw [← HNN.out]; exact hlt
      obtain ⟨g1, o1, k1, e1, hg1, hc1, p0, p1⟩ := (HP.out.below HW.out).here hkz
      have hbv := (HP.out.below HW.out).val _ (pn_mem hkz)
      have hget := says_get HN.out HS.out hkz
      rw [← HNN.out] at e1
      cases e1
      obtain ⟨W, hW⟩ : ∃ W, W = wr.alloc (.cells #[.string (pn zp k).k, .slice (pn zp k).a (pn zp k).z.length (pn zp k).c] 60) := ⟨_, rfl⟩
      have hbW : Below wr.heap.size wr W := by rw [hW]; exact (Below.refl _ _).alloc (Nat.le_refl _) _
      have hzW : W.heap.size = wr.heap.size + 1 := by rw [hW]; simp
      have k0 : W.heap[wr.heap.size]? = some (.cells #[.string (pn zp k).k, .slice (pn zp k).a (pn zp k).z.length (pn zp k).c] 60 (0, 0)) := by rw [hW]; exact heap_alloc_new wr _
      have q0 := cell_of_row _ _ 0 _ _ _ k0
      obtain ⟨hs1, hs2⟩ := says_kl HFi.out HN.out HS.out hkz
      have hsz : (pn zp k).k.size ≤ maxLen := by unfold maxLen; omega
      have hg := ((HF3.out.below HW.out).below hbW).get HFi.out (pn zp k).k hsz st
      rw [hget] at hg
      simp only [Option.getD_some, Option.isSome_some] at hg
      obtain ⟨a8, c8, e8, r8, _⟩ := hbv.row
      obtain ⟨rfl, rfl⟩ : a8 = (pn zp k).a ∧ c8 = (pn zp k).c := by cases e8; exact ⟨rfl, rfl⟩
      go_wp2_with fail
      try rw [← hW]
      clear hW
      refine hg.mono ?_
      rintro e z1 ⟨⟨a9, c9, rfl, hr9⟩, hb9⟩
      have hbz : Below wr.heap.size wr z1 := hbW.trans (hb9.mono hbW.size)
      have hcl := fun z (hz : Below z1.heap.size z1 z) => (beq_same a9 (pn zp k).a (pn zp k).z.length c9 (pn zp k).c (pn zp k).z z (hr9.below hz) ((r8.below hbz).below hz) rfl (by omega)).mono (R' := fun e w' => e = .returned (.bool true) ∧ Below z.heap.size z w') fun e w' ⟨h1, q, h2⟩ => ⟨h1, by rw [h2]; exact below_drewN (Below.refl _ _) q⟩
      have kx : z1.heap[wr.heap.size]? = some (.cells #[.string (pn zp k).k, .slice (pn zp k).a (pn zp k).z.length (pn zp k).c] 60 (0, 0)) := (hb9.block wr.heap.size (by omega)).trans k0
      have hxl : wr.heap.size < z1.heap.size := (Array.getElem?_eq_some_iff.1 kx).1
      have hy0 := (Below.refl z1.heap.size z1).drew
      by_cases hk0 : 0 < k
      · have hd1 : decide (0 < (k : Int)) = true := decide_eq_true (by omega)
        obtain ⟨j, hj⟩ : ∃ j, j = k - 1 := ⟨_, rfl⟩
        have hjz : j < zp.length := by omega
        have hwm : IntKind.i64.wrap ((k : Int) - 1) = (j : Int) := by rw [show (k : Int) - 1 = (j : Int) by omega]; exact i64_in (by omega) (by omega)
        have hjN : (j : Int) < (N : Int) := by omega
        obtain ⟨g2, o2, k2, e2, hg2, hc2, j0, _⟩ := (HP.out.below HW.out).here hjz
        rw [← HNN.out] at e2
        cases e2
        have j1 := (hbz.cell (p := ⟨g1, o1 + j * 2, none⟩) hg1).trans j0
        have hg1z : g1 < z1.heap.size := by have := hbz.size; omega
        obtain ⟨f1, f2, f3⟩ := bl_no (says_rise HR.out HS.out (show j < k by omega) hkz)
        generalize (pn zp k).k = K at *
        generalize (pn zp k).z = Z at *
        generalize (pn zp k).a = A1 at *
        generalize (pn zp k).c = C1 at *
        generalize (pn zp j).k = L at *
        generalize Z.length = ZL at *
        have HZ := hide_it hbz
        clear hg hr9 hb9 hbz r8 hs1 hs2 hsz p0 p1 q0 k0 hzW hbW hbv hget j0 hj hg2 hc2
        go_wp2_with fail
        refine wp_region_held_drew (S := (fun w' => w'.heap[wr.heap.size]? = z1.heap[wr.heap.size]? ∧ w'.heap[g1]? = z1.heap[g1]?)) (by kernel_rfl) ?_ (fun hHeld => ?_)
        · exact ⟨rfl, rfl⟩
        refine take_on (i := 0) (v := ?_) rfl rfl (by kernel_rfl) (by kernel_rfl) (by kernel_rfl) (fun _ _ _ h => h) rfl ?_ hHeld ?_
        rotate_left
        · (intro wq hSq; have xk := hSq.1.trans kx; have t0 := cell_of_row _ _ 0 _ _ _ xk; have t1 := cell_of_row _ _ 1 _ _ _ xk; have t2 := (World.cell?_of_block (w := z1) (a := ⟨g1, o1 + j * 2, none⟩) hSq.2).trans j1; go_simp <;> first | with_reducible rfl | rfl)
        simp only [Act.put, List.setIfInBounds_toArray, List.set_cons_zero, List.set_cons_succ]
        refine take_on (i := 1) (v := ?_) rfl rfl (by kernel_rfl) (by kernel_rfl) (by kernel_rfl) (fun _ _ _ h => h) rfl ?_ hHeld ?_
        rotate_left
        · (intro wq hSq; have xk := hSq.1.trans kx; have t0 := cell_of_row _ _ 0 _ _ _ xk; have t1 := cell_of_row _ _ 1 _ _ _ xk; have t2 := (World.cell?_of_block (w := z1) (a := ⟨g1, o1 + j * 2, none⟩) hSq.2).trans j1; go_simp <;> first | with_reducible rfl | rfl)
        simp only [Act.put, List.setIfInBounds_toArray, List.set_cons_zero, List.set_cons_succ]
        refine take_on (i := 2) (v := ?_) rfl rfl (by kernel_rfl) (by kernel_rfl) (by kernel_rfl) (fun _ _ _ h => h) rfl ?_ hHeld ?_
        rotate_left
        · (intro wq hSq; have xk := hSq.1.trans kx; have t0 := cell_of_row _ _ 0 _ _ _ xk; have t1 := cell_of_row _ _ 1 _ _ _ xk; have t2 := (World.cell?_of_block (w := z1) (a := ⟨g1, o1 + j * 2, none⟩) hSq.2).trans j1; go_simp <;> first | with_reducible rfl | rfl)
        simp only [Act.put, List.setIfInBounds_toArray, List.set_cons_zero, List.set_cons_succ]
        refine take_on (i := 3) (v := ?_) rfl rfl (by kernel_rfl) (by kernel_rfl) (by kernel_rfl) (fun _ _ _ h => h) rfl ?_ hHeld ?_
        rotate_left
        · (intro wq hSq; have xk := hSq.1.trans kx; have t0 := cell_of_row _ _ 0 _ _ _ xk; have t1 := cell_of_row _ _ 1 _ _ _ xk; have t2 := (World.cell?_of_block (w := z1) (a := ⟨g1, o1 + j * 2, none⟩) hSq.2).trans j1; go_simp <;> first | with_reducible rfl | rfl)
        simp only [Act.put, List.setIfInBounds_toArray, List.set_cons_zero, List.set_cons_succ]
        refine take_on (i := 4) (v := ?_) rfl rfl (by kernel_rfl) (by kernel_rfl) (by kernel_rfl) (fun _ _ _ h => h) rfl ?_ hHeld ?_
        rotate_left
        · (intro wq hSq; have xk := hSq.1.trans kx; have t0 := cell_of_row _ _ 0 _ _ _ xk; have t1 := cell_of_row _ _ 1 _ _ _ xk; have t2 := (World.cell?_of_block (w := z1) (a := ⟨g1, o1 + j * 2, none⟩) hSq.2).trans j1; go_simp <;> first | with_reducible rfl | rfl)
        simp only [Act.put, List.setIfInBounds_toArray, List.set_cons_zero, List.set_cons_succ]
        refine take_on (i := 5) (v := ?_) rfl rfl (by kernel_rfl) (by kernel_rfl) (by kernel_rfl) (fun _ _ _ h => h) rfl ?_ hHeld ?_
        rotate_left
        · (intro wq hSq; have xk := hSq.1.trans kx; have t0 := cell_of_row _ _ 0 _ _ _ xk; have t1 := cell_of_row _ _ 1 _ _ _ xk; have t2 := (World.cell?_of_block (w := z1) (a := ⟨g1, o1 + j * 2, none⟩) hSq.2).trans j1; go_simp <;> first | with_reducible rfl | rfl)
        simp only [Act.put, List.setIfInBounds_toArray, List.set_cons_zero, List.set_cons_succ]
        refine take_one (i := 6) rfl (by kernel_rfl) (fun K hK => ?_)
        go_simp
        (refine (hcl _ hy0).mono ?_; rintro e z2 ⟨rfl, hz2⟩; have hy1 := hy0.trans (hz2.mono (by have := hy0.size; omega)); clear hz2)
        try go_wp2_with fail
        refine hK.out _ _ ?_ (fun hHeld => ?_)
        · exact ⟨hy1.block _ hxl, hy1.block _ hg1z⟩
        clear hK K
        try simp only [Act.put, List.setIfInBounds_toArray, List.set_cons_zero, List.set_cons_succ]
        refine take_on (i := 7) (v := ?_) rfl rfl (by kernel_rfl) (by kernel_rfl) (by kernel_rfl) (fun _ _ _ h => h) rfl ?_ hHeld ?_
        rotate_left
        · (intro wq hSq; have xk := hSq.1.trans kx; have t0 := cell_of_row _ _ 0 _ _ _ xk; have t1 := cell_of_row _ _ 1 _ _ _ xk; have t2 := (World.cell?_of_block (w := z1) (a := ⟨g1, o1 + j * 2, none⟩) hSq.2).trans j1; go_simp <;> first | with_reducible rfl | rfl)
        simp only [Act.put, List.setIfInBounds_toArray, List.set_cons_zero, List.set_cons_succ]
        refine take_on (i := 8) (v := ?_) rfl rfl (by kernel_rfl) (by kernel_rfl) (by kernel_rfl) (fun _ _ _ h => h) rfl ?_ hHeld ?_
        rotate_left
        · (intro wq hSq; have xk := hSq.1.trans kx; have t0 := cell_of_row _ _ 0 _ _ _ xk; have t1 := cell_of_row _ _ 1 _ _ _ xk; have t2 := (World.cell?_of_block (w := z1) (a := ⟨g1, o1 + j * 2, none⟩) hSq.2).trans j1; go_simp <;> first | with_reducible rfl | rfl)
        simp only [Act.put, List.setIfInBounds_toArray, List.set_cons_zero, List.set_cons_succ]
        refine take_on (i := 9) (v := ?_) rfl rfl (by kernel_rfl) (by kernel_rfl) (by kernel_rfl) (fun _ _ _ h => h) rfl ?_ hHeld ?_
        rotate_left
        · (intro wq hSq; have xk := hSq.1.trans kx; have t0 := cell_of_row _ _ 0 _ _ _ xk; have t1 := cell_of_row _ _ 1 _ _ _ xk; have t2 := (World.cell?_of_block (w := z1) (a := ⟨g1, o1 + j * 2, none⟩) hSq.2).trans j1; go_simp <;> first | with_reducible rfl | rfl)
        simp only [Act.put, List.setIfInBounds_toArray, List.set_cons_zero, List.set_cons_succ]
        refine take_on (i := 10) (v := ?_) rfl rfl (by kernel_rfl) (by kernel_rfl) (by kernel_rfl) (fun _ _ _ h => h) rfl ?_ hHeld ?_
        rotate_left
        · (intro wq hSq; have xk := hSq.1.trans kx; have t0 := cell_of_row _ _ 0 _ _ _ xk; have t1 := cell_of_row _ _ 1 _ _ _ xk; have t2 := (World.cell?_of_block (w := z1) (a := ⟨g1, o1 + j * 2, none⟩) hSq.2).trans j1; go_simp <;> first | with_reducible rfl | rfl)
        simp only [Act.put, List.setIfInBounds_toArray, List.set_cons_zero, List.set_cons_succ]
        refine take_on (i := 11) (v := ?_) rfl rfl (by kernel_rfl) (by kernel_rfl) (by kernel_rfl) (fun _ _ _ h => h) rfl ?_ hHeld ?_
        rotate_left
        · (intro wq hSq; have xk := hSq.1.trans kx; have t0 := cell_of_row _ _ 0 _ _ _ xk; have t1 := cell_of_row _ _ 1 _ _ _ xk; have t2 := (World.cell?_of_block (w := z1) (a := ⟨g1, o1 + j * 2, none⟩) hSq.2).trans j1; go_simp <;> first | with_reducible rfl | rfl)
        simp only [Act.put, List.setIfInBounds_toArray, List.set_cons_zero, List.set_cons_succ]
        refine take_on (i := 12) (v := ?_) rfl rfl (by kernel_rfl) (by kernel_rfl) (by kernel_rfl) (fun _ _ _ h => h) rfl ?_ hHeld ?_
        rotate_left
        · (intro wq hSq; have xk := hSq.1.trans kx; have t0 := cell_of_row _ _ 0 _ _ _ xk; have t1 := cell_of_row _ _ 1 _ _ _ xk; have t2 := (World.cell?_of_block (w := z1) (a := ⟨g1, o1 + j * 2, none⟩) hSq.2).trans j1; go_simp <;> first | with_reducible rfl | rfl)
        simp only [Act.put, List.setIfInBounds_toArray, List.set_cons_zero, List.set_cons_succ]
        refine take_on (i := 13) (v := ?_) rfl rfl (by kernel_rfl) (by kernel_rfl) (by kernel_rfl) (fun _ _ _ h => h) rfl ?_ hHeld ?_
        rotate_left
        · (intro wq hSq; have xk := hSq.1.trans kx; have t0 := cell_of_row _ _ 0 _ _ _ xk; have t1 := cell_of_row _ _ 1 _ _ _ xk; have t2 := (World.cell?_of_block (w := z1) (a := ⟨g1, o1 + j * 2, none⟩) hSq.2).trans j1; go_simp <;> first | with_reducible rfl | rfl)
        simp only [Act.put, List.setIfInBounds_toArray, List.set_cons_zero, List.set_cons_succ]
        refine take_on (i := 14) (v := ?_) rfl rfl (by kernel_rfl) (by kernel_rfl) (by kernel_rfl) (fun _ _ _ h => h) rfl ?_ hHeld ?_
        rotate_left
        · (intro wq hSq; have xk := hSq.1.trans kx; have t0 := cell_of_row _ _ 0 _ _ _ xk; have t1 := cell_of_row _ _ 1 _ _ _ xk; have t2 := (World.cell?_of_block (w := z1) (a := ⟨g1, o1 + j * 2, none⟩) hSq.2).trans j1; go_simp <;> first | with_reducible rfl | rfl)
        simp only [Act.put, List.setIfInBounds_toArray, List.set_cons_zero, List.set_cons_succ]
        refine take_on (i := 15) (v := ?_) rfl rfl (by kernel_rfl) (by kernel_rfl) (by kernel_rfl) (fun _ _ _ h => h) rfl ?_ hHeld ?_
        rotate_left
        · (intro wq hSq; have xk := hSq.1.trans kx; have t0 := cell_of_row _ _ 0 _ _ _ xk; have t1 := cell_of_row _ _ 1 _ _ _ xk; have t2 := (World.cell?_of_block (w := z1) (a := ⟨g1, o1 + j * 2, none⟩) hSq.2).trans j1; go_simp <;> first | with_reducible rfl | rfl)
        simp only [Act.put, List.setIfInBounds_toArray, List.set_cons_zero, List.set_cons_succ]
        refine take_on (i := 16) (v := ?_) rfl rfl (by kernel_rfl) (by kernel_rfl) (by kernel_rfl) (fun _ _ _ h => h) rfl ?_ hHeld ?_
        rotate_left
        · (intro wq hSq; have xk := hSq.1.trans kx; have t0 := cell_of_row _ _ 0 _ _ _ xk; have t1 := cell_of_row _ _ 1 _ _ _ xk; have t2 := (World.cell?_of_block (w := z1) (a := ⟨g1, o1 + j * 2, none⟩) hSq.2).trans j1; go_simp <;> first | with_reducible rfl | rfl)
        simp only [Act.put, List.setIfInBounds_toArray, List.set_cons_zero, List.set_cons_succ]
        refine take_on (i := 17) (v := ?_) rfl rfl (by kernel_rfl) (by kernel_rfl) (by kernel_rfl) (fun _ _ _ h => h) rfl ?_ hHeld ?_
        rotate_left
        · (intro wq hSq; have xk := hSq.1.trans kx; have t0 := cell_of_row _ _ 0 _ _ _ xk; have t1 := cell_of_row _ _ 1 _ _ _ xk; have t2 := (World.cell?_of_block (w := z1) (a := ⟨g1, o1 + j * 2, none⟩) hSq.2).trans j1; go_simp <;> first | with_reducible rfl | rfl)
        simp only [Act.put, List.setIfInBounds_toArray, List.set_cons_zero, List.set_cons_succ]
        refine take_on (i := 18) (v := ?_) rfl rfl (by kernel_rfl) (by kernel_rfl) (by kernel_rfl) (fun _ _ _ h => h) rfl ?_ hHeld ?_
        rotate_left
        · (intro wq hSq; have xk := hSq.1.trans kx; have t0 := cell_of_row _ _ 0 _ _ _ xk; have t1 := cell_of_row _ _ 1 _ _ _ xk; have t2 := (World.cell?_of_block (w := z1) (a := ⟨g1, o1 + j * 2, none⟩) hSq.2).trans j1; go_simp <;> first | with_reducible rfl | rfl)
        simp only [Act.put, List.setIfInBounds_toArray, List.set_cons_zero, List.set_cons_succ]
        refine take_on (i := 19) (v := ?_) rfl rfl (by kernel_rfl) (by kernel_rfl) (by kernel_rfl) (fun _ _ _ h => h) rfl ?_ hHeld ?_
        rotate_left
        · (intro wq hSq; have xk := hSq.1.trans kx; have t0 := cell_of_row _ _ 0 _ _ _ xk; have t1 := cell_of_row _ _ 1 _ _ _ xk; have t2 := (World.cell?_of_block (w := z1) (a := ⟨g1, o1 + j * 2, none⟩) hSq.2).trans j1; go_simp <;> first | with_reducible rfl | rfl)
        simp only [Act.put, List.setIfInBounds_toArray, List.set_cons_zero, List.set_cons_succ]
        refine take_on (i := 20) (v := ?_) rfl rfl (by kernel_rfl) (by kernel_rfl) (by kernel_rfl) (fun _ _ _ h => h) rfl ?_ hHeld ?_
        rotate_left
        · (intro wq hSq; have xk := hSq.1.trans kx; have t0 := cell_of_row _ _ 0 _ _ _ xk; have t1 := cell_of_row _ _ 1 _ _ _ xk; have t2 := (World.cell?_of_block (w := z1) (a := ⟨g1, o1 + j * 2, none⟩) hSq.2).trans j1; go_simp <;> first | with_reducible rfl | rfl)
        simp only [Act.put, List.setIfInBounds_toArray, List.set_cons_zero, List.set_cons_succ]
        refine take_on (i := 21) (v := ?_) rfl rfl (by kernel_rfl) (by kernel_rfl) (by kernel_rfl) (fun _ _ _ h => h) rfl ?_ hHeld ?_
        rotate_left
        · (intro wq hSq; have xk := hSq.1.trans kx; have t0 := cell_of_row _ _ 0 _ _ _ xk; have t1 := cell_of_row _ _ 1 _ _ _ xk; have t2 := (World.cell?_of_block (w := z1) (a := ⟨g1, o1 + j * 2, none⟩) hSq.2).trans j1; go_simp <;> first | with_reducible rfl | rfl)
        simp only [Act.put, List.setIfInBounds_toArray, List.set_cons_zero, List.set_cons_succ]
        refine take_on (i := 22) (v := ?_) rfl rfl (by kernel_rfl) (by kernel_rfl) (by kernel_rfl) (fun _ _ _ h => h) rfl ?_ hHeld ?_
        rotate_left
        · (intro wq hSq; have xk := hSq.1.trans kx; have t0 := cell_of_row _ _ 0 _ _ _ xk; have t1 := cell_of_row _ _ 1 _ _ _ xk; have t2 := (World.cell?_of_block (w := z1) (a := ⟨g1, o1 + j * 2, none⟩) hSq.2).trans j1; go_simp <;> first | with_reducible rfl | rfl)
        simp only [Act.put, List.setIfInBounds_toArray, List.set_cons_zero, List.set_cons_succ]
        refine take_on (i := 23) (v := ?_) rfl rfl (by kernel_rfl) (by kernel_rfl) (by kernel_rfl) (fun _ _ _ h => h) rfl ?_ hHeld ?_
        rotate_left
        · (intro wq hSq; have xk := hSq.1.trans kx; have t0 := cell_of_row _ _ 0 _ _ _ xk; have t1 := cell_of_row _ _ 1 _ _ _ xk; have t2 := (World.cell?_of_block (w := z1) (a := ⟨g1, o1 + j * 2, none⟩) hSq.2).trans j1; go_simp <;> first | with_reducible rfl | rfl)
        simp only [Act.put, List.setIfInBounds_toArray, List.set_cons_zero, List.set_cons_succ]
        refine wpAnyH_done (by kernel_rfl) ?_ _
        have HY := hide_it (HW.out.trans ((HZ.out.trans (hy1.mono HZ.out.size)).mono HW.out.size))
        clear hy0 hy1 hcl
        go_wp2
        go_roundw
        case rel => exact ⟨k + 1, by omega, by go_num, HY⟩
        case measure => simp [intOf]; omega
      · have hd1 : decide (0 < (k : Int)) = false := decide_eq_false (by omega)
        generalize (pn zp k).k = K at *
        generalize (pn zp k).z = Z at *
        generalize (pn zp k).a = A1 at *
        generalize (pn zp k).c = C1 at *
        generalize Z.length = ZL at *
        have HZ := hide_it hbz
        clear hg hr9 hb9 hbz r8 hs1 hs2 hsz p0 p1 q0 k0 hzW hbW hbv hget
        go_wp2_with fail
        refine wp_region_held_drew (S := (fun w' => w'.heap[wr.heap.size]? = z1.heap[wr.heap.size]?)) (by kernel_rfl) ?_ (fun hHeld => ?_)
        · rfl
        refine take_on (i := 0) (v := ?_) rfl rfl (by kernel_rfl) (by kernel_rfl) (by kernel_rfl) (fun _ _ _ h => h) rfl ?_ hHeld ?_
        rotate_left
        · (intro wq hSq; have xk := hSq.trans kx; have t0 := cell_of_row _ _ 0 _ _ _ xk; have t1 := cell_of_row _ _ 1 _ _ _ xk; go_simp <;> first | with_reducible rfl | rfl)
        simp only [Act.put, List.setIfInBounds_toArray, List.set_cons_zero, List.set_cons_succ]
        refine take_on (i := 1) (v := ?_) rfl rfl (by kernel_rfl) (by kernel_rfl) (by kernel_rfl) (fun _ _ _ h => h) rfl ?_ hHeld ?_
        rotate_left
        · (intro wq hSq; have xk := hSq.trans kx; have t0 := cell_of_row _ _ 0 _ _ _ xk; have t1 := cell_of_row _ _ 1 _ _ _ xk; go_simp <;> first | with_reducible rfl | rfl)
        simp only [Act.put, List.setIfInBounds_toArray, List.set_cons_zero, List.set_cons_succ]
        refine take_on (i := 2) (v := ?_) rfl rfl (by kernel_rfl) (by kernel_rfl) (by kernel_rfl) (fun _ _ _ h => h) rfl ?_ hHeld ?_
        rotate_left
        · (intro wq hSq; have xk := hSq.trans kx; have t0 := cell_of_row _ _ 0 _ _ _ xk; have t1 := cell_of_row _ _ 1 _ _ _ xk; go_simp <;> first | with_reducible rfl | rfl)
        simp only [Act.put, List.setIfInBounds_toArray, List.set_cons_zero, List.set_cons_succ]
        refine take_on (i := 3) (v := ?_) rfl rfl (by kernel_rfl) (by kernel_rfl) (by kernel_rfl) (fun _ _ _ h => h) rfl ?_ hHeld ?_
        rotate_left
        · (intro wq hSq; have xk := hSq.trans kx; have t0 := cell_of_row _ _ 0 _ _ _ xk; have t1 := cell_of_row _ _ 1 _ _ _ xk; go_simp <;> first | with_reducible rfl | rfl)
        simp only [Act.put, List.setIfInBounds_toArray, List.set_cons_zero, List.set_cons_succ]
        refine take_on (i := 4) (v := ?_) rfl rfl (by kernel_rfl) (by kernel_rfl) (by kernel_rfl) (fun _ _ _ h => h) rfl ?_ hHeld ?_
        rotate_left
        · (intro wq hSq; have xk := hSq.trans kx; have t0 := cell_of_row _ _ 0 _ _ _ xk; have t1 := cell_of_row _ _ 1 _ _ _ xk; go_simp <;> first | with_reducible rfl | rfl)
        simp only [Act.put, List.setIfInBounds_toArray, List.set_cons_zero, List.set_cons_succ]
        refine take_on (i := 5) (v := ?_) rfl rfl (by kernel_rfl) (by kernel_rfl) (by kernel_rfl) (fun _ _ _ h => h) rfl ?_ hHeld ?_
        rotate_left
        · (intro wq hSq; have xk := hSq.trans kx; have t0 := cell_of_row _ _ 0 _ _ _ xk; have t1 := cell_of_row _ _ 1 _ _ _ xk; go_simp <;> first | with_reducible rfl | rfl)
        simp only [Act.put, List.setIfInBounds_toArray, List.set_cons_zero, List.set_cons_succ]
        refine take_one (i := 6) rfl (by kernel_rfl) (fun K hK => ?_)
        go_simp
        (refine (hcl _ hy0).mono ?_; rintro e z2 ⟨rfl, hz2⟩; have hy1 := hy0.trans (hz2.mono (by have := hy0.size; omega)); clear hz2)
        try go_wp2_with fail
        refine hK.out _ _ ?_ (fun hHeld => ?_)
        · exact hy1.block _ hxl
        clear hK K
        try simp only [Act.put, List.setIfInBounds_toArray, List.set_cons_zero, List.set_cons_succ]
        refine take_on (i := 7) (v := ?_) rfl rfl (by kernel_rfl) (by kernel_rfl) (by kernel_rfl) (fun _ _ _ h => h) rfl ?_ hHeld ?_
        rotate_left
        · (intro wq hSq; have xk := hSq.trans kx; have t0 := cell_of_row _ _ 0 _ _ _ xk; have t1 := cell_of_row _ _ 1 _ _ _ xk; go_simp <;> first | with_reducible rfl | rfl)
        simp only [Act.put, List.setIfInBounds_toArray, List.set_cons_zero, List.set_cons_succ]
        refine take_on (i := 8) (v := ?_) rfl rfl (by kernel_rfl) (by kernel_rfl) (by kernel_rfl) (fun _ _ _ h => h) rfl ?_ hHeld ?_
        rotate_left
        · (intro wq hSq; have xk := hSq.trans kx; have t0 := cell_of_row _ _ 0 _ _ _ xk; have t1 := cell_of_row _ _ 1 _ _ _ xk; go_simp <;> first | with_reducible rfl | rfl)
        simp only [Act.put, List.setIfInBounds_toArray, List.set_cons_zero, List.set_cons_succ]
        refine take_on (i := 9) (v := ?_) rfl rfl (by kernel_rfl) (by kernel_rfl) (by kernel_rfl) (fun _ _ _ h => h) rfl ?_ hHeld ?_
        rotate_left
        · (intro wq hSq; have xk := hSq.trans kx; have t0 := cell_of_row _ _ 0 _ _ _ xk; have t1 := cell_of_row _ _ 1 _ _ _ xk; go_simp <;> first | with_reducible rfl | rfl)
        simp only [Act.put, List.setIfInBounds_toArray, List.set_cons_zero, List.set_cons_succ]
        refine take_on (i := 10) (v := ?_) rfl rfl (by kernel_rfl) (by kernel_rfl) (by kernel_rfl) (fun _ _ _ h => h) rfl ?_ hHeld ?_
        rotate_left
        · (intro wq hSq; have xk := hSq.trans kx; have t0 := cell_of_row _ _ 0 _ _ _ xk; have t1 := cell_of_row _ _ 1 _ _ _ xk; go_simp <;> first | with_reducible rfl | rfl)
        simp only [Act.put, List.setIfInBounds_toArray, List.set_cons_zero, List.set_cons_succ]
        refine take_on (i := 11) (v := ?_) rfl rfl (by kernel_rfl) (by kernel_rfl) (by kernel_rfl) (fun _ _ _ h => h) rfl ?_ hHeld ?_
        rotate_left
        · (intro wq hSq; have xk := hSq.trans kx; have t0 := cell_of_row _ _ 0 _ _ _ xk; have t1 := cell_of_row _ _ 1 _ _ _ xk; go_simp <;> first | with_reducible rfl | rfl)
        simp only [Act.put, List.setIfInBounds_toArray, List.set_cons_zero, List.set_cons_succ]
        refine take_on (i := 12) (v := ?_) rfl rfl (by kernel_rfl) (by kernel_rfl) (by kernel_rfl) (fun _ _ _ h => h) rfl ?_ hHeld ?_
        rotate_left
        · (intro wq hSq; have xk := hSq.trans kx; have t0 := cell_of_row _ _ 0 _ _ _ xk; have t1 := cell_of_row _ _ 1 _ _ _ xk; go_simp <;> first | with_reducible rfl | rfl)
        simp only [Act.put, List.setIfInBounds_toArray, List.set_cons_zero, List.set_cons_succ]
        refine take_off (i := 13) rfl rfl (by kernel_rfl) (by kernel_rfl) (by kernel_rfl) (fun _ _ _ h => h) rfl hHeld ?_
        simp only [Act.put, List.setIfInBounds_toArray, List.set_cons_zero, List.set_cons_succ]
        refine take_off (i := 14) rfl rfl (by kernel_rfl) (by kernel_rfl) (by kernel_rfl) (fun _ _ _ h => h) rfl hHeld ?_
        simp only [Act.put, List.setIfInBounds_toArray, List.set_cons_zero, List.set_cons_succ]
        refine take_off (i := 15) rfl rfl (by kernel_rfl) (by kernel_rfl) (by kernel_rfl) (fun _ _ _ h => h) rfl hHeld ?_
        simp only [Act.put, List.setIfInBounds_toArray, List.set_cons_zero, List.set_cons_succ]
        refine take_off (i := 16) rfl rfl (by kernel_rfl) (by kernel_rfl) (by kernel_rfl) (fun _ _ _ h => h) rfl hHeld ?_
        simp only [Act.put, List.setIfInBounds_toArray, List.set_cons_zero, List.set_cons_succ]
        refine take_off (i := 17) rfl rfl (by kernel_rfl) (by kernel_rfl) (by kernel_rfl) (fun _ _ _ h => h) rfl hHeld ?_
        simp only [Act.put, List.setIfInBounds_toArray, List.set_cons_zero, List.set_cons_succ]
        refine take_off (i := 18) rfl rfl (by kernel_rfl) (by kernel_rfl) (by kernel_rfl) (fun _ _ _ h => h) rfl hHeld ?_
        simp only [Act.put, List.setIfInBounds_toArray, List.set_cons_zero, List.set_cons_succ]
        refine take_off (i := 19) rfl rfl (by kernel_rfl) (by kernel_rfl) (by kernel_rfl) (fun _ _ _ h => h) rfl hHeld ?_
        simp only [Act.put, List.setIfInBounds_toArray, List.set_cons_zero, List.set_cons_succ]
        refine take_off (i := 20) rfl rfl (by kernel_rfl) (by kernel_rfl) (by kernel_rfl) (fun _ _ _ h => h) rfl hHeld ?_
        simp only [Act.put, List.setIfInBounds_toArray, List.set_cons_zero, List.set_cons_succ]
        refine take_off (i := 21) rfl rfl (by kernel_rfl) (by kernel_rfl) (by kernel_rfl) (fun _ _ _ h => h) rfl hHeld ?_
        simp only [Act.put, List.setIfInBounds_toArray, List.set_cons_zero, List.set_cons_succ]
        refine take_on (i := 22) (v := ?_) rfl rfl (by kernel_rfl) (by kernel_rfl) (by kernel_rfl) (fun _ _ _ h => h) rfl ?_ hHeld ?_
        rotate_left
        · (intro wq hSq; have xk := hSq.trans kx; have t0 := cell_of_row _ _ 0 _ _ _ xk; have t1 := cell_of_row _ _ 1 _ _ _ xk; go_simp <;> first | with_reducible rfl | rfl)
        simp only [Act.put, List.setIfInBounds_toArray, List.set_cons_zero, List.set_cons_succ]
        refine take_on (i := 23) (v := ?_) rfl rfl (by kernel_rfl) (by kernel_rfl) (by kernel_rfl) (fun _ _ _ h => h) rfl ?_ hHeld ?_
        rotate_left
        · (intro wq hSq; have xk := hSq.trans kx; have t0 := cell_of_row _ _ 0 _ _ _ xk; have t1 := cell_of_row _ _ 1 _ _ _ xk; go_simp <;> first | with_reducible rfl | rfl)
        simp only [Act.put, List.setIfInBounds_toArray, List.set_cons_zero, List.set_cons_succ]
        refine wpAnyH_done (by kernel_rfl) ?_ _
        have HY := hide_it (HW.out.trans ((HZ.out.trans (hy1.mono HZ.out.size)).mono HW.out.size))
        clear hy0 hy1 hcl
        go_wp2
        go_roundw
        case rel => exact ⟨k + 1, by omega, by go_num, HY⟩
        case measure => simp [intOf]; omega
    · have hkN : k = N := by omega
      have hF := HF3.out.below HW.out
      have hve := hF.vers HFi.out
      have HB4 := hide_it (HB3.out.trans (HW.out.mono HB3.out.size))
      have HF4 := hide_it hF
      have hcz : (scanA C [] [] st).length = N := by
        have h1 := congrArg List.length HS.out
        unfold saysP at h1
        rw [List.length_map] at h1
        rw [HNN.out, h1]
      clear hF HW HF3 HB3 HP HS HNN hkN
      generalize wr = w4 at *
      go_wp2_with fail
      refine hve.mono ?_
      rintro e w5 ⟨va, vm, vc, ys, rfl, hvm, hrv, hys, hb5⟩
      have HF5 := hide_it (HF4.out.below hb5)
      have HB5 := hide_it (HB4.out.trans (hb5.mono HB4.out.size))
      have HRV := hide_it hrv
      have hml := vers_len HFi.out hys
      have HVK := hide_it (vers_k HFi.out hys)
      have hcN := (cntK_all HG.out HN.out (n := st) hys).trans hcz
      rw [← hvm] at hml hcN
      have HVM := hide_it hvm
      clear hve hrv hb5 HF4 HB4 hvm hcz hys
      go_wp2_with fail
      go_loopw [72, 13, 15, 16, 17, 18, 19] (fun i cn _ _ _ _ _ wr => ∃ k : Nat, k ≤ vm ∧ i = .int .i64 (k : Int) ∧ cn = .int .i64 (cntK C st ys k : Int) ∧ Hid (Below w5.heap.size w5 wr)) (fun i _ _ _ _ _ _ _ => vm - (intOf i).toNat)
      case atStart => exact ⟨0, by omega, rfl, by rw [cntK_zero]; rfl, hide_it (Below.refl _ _)⟩
      case round =>
        obtain ⟨k, hk, rfl, rfl, HW⟩ := hrel
        by_cases hlt : k < vm
        · have hki : (k : Int) < (vm : Int) := by omega
          have hw1 : IntKind.i64.wrap ((k : Int) + 1) = (k : Int) + 1 := i64_in (by omega) (by omega)
          have hkz : k < ys.length := by rw [← HVM.out]; exact hlt
          obtain ⟨g1, o1, k1, e1, hg1, hc1, p0, p1, p2, p3⟩ := (HRV.out.below HW.out).here hkz
          rw [← HVM.out] at e1
          cases e1
          have hcs := cntK_step (C := C) (n := st) hkz
          have hcl := cntK_le C st ys k
          have hs1 := HVK.out _ (vn_mem hkz)
          unfold newK verOf at hcs
          simp only at hcs
          obtain ⟨c2, hc2⟩ : ∃ c2, c2 = cntK C st ys (k + 1) := ⟨_, rfl⟩
          rw [← hc2] at hcs
          have HC2 := hide_it hc2
          clear hc2
          generalize cntK C st ys k = c1 at *
          have hw2 : IntKind.i64.wrap ((c1 : Int) + 1) = (c1 : Int) + 1 := i64_in (by omega) (by omega)
          generalize vn ys k = v at *
          obtain ⟨W, hW⟩ : ∃ W, W = wr.alloc (.cells #[.string v.k, .int .i64 v.n, .slice v.a v.z.length v.c, .bool v.d] 30) := ⟨_, rfl⟩
          have hbW : Below wr.heap.size wr W := by rw [hW]; exact (Below.refl _ _).alloc (Nat.le_refl _) _
          have hzW : W.heap.size = wr.heap.size + 1 := by rw [hW]; simp
          have k0 : W.heap[wr.heap.size]? = some (.cells #[.string v.k, .int .i64 v.n, .slice v.a v.z.length v.c, .bool v.d] 30 (0, 0)) := by rw [hW]; exact heap_alloc_new wr _
          have hg := ((HF5.out.below HW.out).below hbW).get HFi.out v.k (by unfold maxLen; omega) st
          have hnw := fun z (hz : Below W.heap.size W z) => (((HF5.out.below HW.out).below hbW).below hz).newest HFi.out v.k (by unfold maxLen; omega)
          generalize (getA C v.k.data.toList st).isSome = I at *
          generalize ((getA C v.k.data.toList st).getD []).length = gl at *
          generalize (newestA C v.k.data.toList).1 = LL at *
          generalize (newestA C v.k.data.toList).2 = L2 at *
          have q0 := cell_of_row _ _ 0 _ _ _ k0
          clear hs1 hc1
          go_wp2_with fail
          try rw [← hW]
          clear hW p0 p1 p2 p3 q0
          refine hg.mono ?_
          rintro e z1 ⟨⟨a9, c9, rfl, _⟩, hb9⟩
          have kx : z1.heap[wr.heap.size]? = some (.cells #[.string v.k, .int .i64 v.n, .slice v.a v.z.length v.c, .bool v.d] 30 (0, 0)) := (hb9.block wr.heap.size (by omega)).trans k0
          have hxl : wr.heap.size < z1.heap.size := (Array.getElem?_eq_some_iff.1 kx).1
          have q0 := cell_of_row _ _ 0 _ _ _ kx
          have hn2 := hnw z1 hb9
          have hbz : Below wr.heap.size wr z1 := hbW.trans (hb9.mono hbW.size)
          clear hg hnw k0
          go_wp2_with fail
          refine hn2.mono ?_
          rintro e z2 ⟨rfl, hb10⟩
          have kx2 := (hb10.block wr.heap.size hxl).trans kx
          have q1 := cell_of_row _ _ 1 _ _ _ kx2
          have HY := hide_it (HW.out.trans ((hbz.trans (hb10.mono hbz.size)).mono HW.out.size))
          clear q0 hn2 hb9 hb10 hbz kx kx2 hbW hzW hxl
          cases I
          · go_wp2
            go_roundw
            case rel => exact ⟨k + 1, by omega, by go_num, by rw [← HC2.out, hcs]; simp, HY⟩
            case measure => simp [intOf]; omega
          · by_cases hL : LL = v.n
            · have hlb : (LL == v.n) = true := by simp [hL]
              clear hL
              go_wp2
              go_roundw
              case rel => exact ⟨k + 1, by omega, by go_num, by rw [← HC2.out, hcs]; simp [hlb], HY⟩
              case measure => simp [intOf]; omega
            · have hlb : (LL == v.n) = false := by simp [hL]
              clear hL
              go_wp2
              go_roundw
              case rel => exact ⟨k + 1, by omega, by go_num, by rw [← HC2.out, hcs]; simp [hlb], HY⟩
              case measure => simp [intOf]; omega
        · have hkN : k = vm := by omega
          have hcv : cntK C st ys k = N := by rw [hkN]; exact hcN
          rw [hcv]
          have HF6 := hide_it (HF5.out.below HW.out)
          have HB6 := hide_it (HB5.out.trans (HW.out.mono HB5.out.size))
          have HB7 := hide_it (HBD.out.below HB6.out)
          have hn1 : ¬ (k : Int) < (vm : Int) := by omega
          clear HW HF5 HB5 HRV HVK HVM hkN hcv hcN hml
          have hN1 : ((N : Int) == (N : Int)) = true := by simp
          have hN2 : ((N : Int) != (N : Int)) = false := by simp
          by_cases h3 : T < 3
          · have h3i : (T : Int) < 3 := by omega
            have h3b : decide ((T : Int) < 3) = true := decide_eq_true h3i
            go_wp2
            go_ret
            exact ⟨rfl, HB6.out⟩
          · obtain ⟨x0, x1, x2, r, rfl⟩ : ∃ x0 x1 x2 r, th = x0 :: x1 :: x2 :: r := by
              have h9 := HT.out
              match th, h9 with
              | [], h => simp at h; omega
              | [_], h => simp at h; omega
              | [_, _], h => simp at h; omega
              | x0 :: x1 :: x2 :: r, _ => exact ⟨x0, x1, x2, r, rfl⟩
            have hrx : RwS (wr.alloc (.cells #[] 9)) b [x0, x1, x2] := by
              obtain ⟨bb, oo, e9, hbb, hbc⟩ := (HB7.out.below (w' := wr.alloc (.cells #[] 9)) ((Below.refl _ _).alloc (Nat.le_refl _) _)).here (i := 0) (by simp)
              refine .inr ⟨bb, oo, e9, hbb, fun i hi => ?_⟩
              have h9 := hbc i (by simp only [List.length_cons, List.length_nil] at hi ⊢; omega)
              rw [h9]
              match i, hi with
              | 0, _ => rfl
              | 1, _ => rfl
              | 2, _ => rfl
            have h3i : ¬ (T : Int) < 3 := by omega
            have h3b : decide ((T : Int) < 3) = false := decide_eq_false h3i
            have h3c : (3 : Int) ≤ (cb : Int) := by omega
            have hbn : ∃ bb oo, b = some ⟨bb, oo, none⟩ := by
              obtain ⟨bb, oo, e9, _⟩ := HB7.out.here (i := 0) (by simp)
              exact ⟨bb, oo, e9⟩
            obtain ⟨bb, oo, rfl⟩ := hbn
            have HX := hide_it hrx
            clear hrx
            go_wp2_with (at_builtin; (refine wpList_append_rowS (wr.alloc (.cells #[] 9)) rfl _ _ rfl wr.heap.size _ [] rfl (OwS.empty wr) (some ⟨bb, oo, none⟩) _ [x0, x1, x2] rfl HX.out (fun e => by cases e) (by simp) (by simp) ?_; intro v4 w4 ho4 hg4 hat4))
            have hbE : Below wr.heap.size wr (wr.alloc (.cells #[] 9)) := (Below.refl _ _).alloc (Nat.le_refl _) _
            have hb4 : Below wr.heap.size wr w4 := hbE.grown hg4 hbE.size fun j e => (OwS.empty wr).ge e
            have hso := textsSort_any ho4 (by simp)
            refine hso.mono ?_
            rintro e w5' ⟨rfl, zs, hzl, hzp, ho5, hg5⟩
            have hb5 : Below wr.heap.size wr w5' := hb4.grown hg5 hb4.size fun j e => ho4.ge e
            obtain ⟨l0, l1, l2, rfl⟩ : ∃ l0 l1 l2, zs = [l0, l1, l2] := by
              match zs, hzl with
              | [l0, l1, l2], _ => exact ⟨l0, l1, l2, rfl⟩
            obtain ⟨a4, c4, rfl, hr5, hc4, _⟩ := ho5.row
            obtain ⟨g, o, rfl, hgl, hcc⟩ := hr5.here (i := 0) (by simp)
            have m0 : w5'.cell? ⟨g, o, none⟩ = some (.string l0) := by simpa using hcc 0 (by simp)
            have m1 : w5'.cell? ⟨g, o + 1, none⟩ = some (.string l1) := by simpa using hcc 1 (by simp)
            have m2 : w5'.cell? ⟨g, o + 2, none⟩ = some (.string l2) := by simpa using hcc 2 (by simp)
            have HF7 := hide_it (HF6.out.below hb5)
            have HB8 := hide_it (HB6.out.trans (hb5.mono HB6.out.size))
            have p01 : bytesBefore l1.data.toList l0.data.toList = false := (List.pairwise_cons.1 hzp).1 l1 (by simp)
            have p12 : bytesBefore l2.data.toList l1.data.toList = false := (List.pairwise_cons.1 (List.pairwise_cons.1 hzp).2).1 l2 (by simp)
            have H01 := hide_it p01
            have H12 := hide_it p12
            clear hso hzl hzp ho5 hg5 hr5 hcc hb5 hb4 hbE ho4 hg4 hat4 HX HF6 HB6 HB7 hc4 p01 p12
            simp only [List.length_cons, List.length_nil]
            by_cases e1 : l1.toList = []
            · have e1b : l1.toList.isEmpty = true := by rw [e1]; rfl
              go_wp2
              go_ret
              exact ⟨rfl, HB8.out⟩
            · have e1b : l1.toList.isEmpty = false := by
                cases h : l1.toList with
                | nil => exact absurd h e1
                | cons x r => rfl
              by_cases e2 : l2.toList = []
              · have e2b : l2.toList.isEmpty = true := by rw [e2]; rfl
                go_wp2
                go_ret
                exact ⟨rfl, HB8.out⟩
              · have e2b : l2.toList.isEmpty = false := by
                  cases h : l2.toList with
                  | nil => exact absurd h e2
                  | cons x r => rfl
                have hne : l1.data.toList ≠ [] := fun e => e1 (by rw [Lib.toList_data]; exact e)
                have HCU := hide_it (scan_cut H01.out H12.out hne HR.out st)
                have sc1 := fun z hz => HF7.out.scanB HFi.out l0 l1 st (z := z) hz
                have sc2 := fun z hz => HF7.out.scanB HFi.out l1 l2 st (z := z) hz
                have sc3 := fun z hz => HF7.out.scanB HFi.out l0 l2 st (z := z) hz
                have hy0 := (Below.refl w5'.heap.size w5').drew
                clear hne
                go_wp2_with fail
                refine wp_region_held_drew (S := (fun w' => w'.heap[g]? = w5'.heap[g]?)) (by kernel_rfl) ?_ (fun hHeld => ?_)
                · rfl
                refine take_on (i := 0) (v := ?_) rfl rfl (by kernel_rfl) (by kernel_rfl) (by kernel_rfl) (fun _ _ _ h => h) rfl ?_ hHeld ?_
                rotate_left
                · (intro wq hSq; have s0 := (World.cell?_of_block (w := w5') (a := ⟨g, o, none⟩) hSq).trans m0; have s1 := (World.cell?_of_block (w := w5') (a := ⟨g, o + 1, none⟩) hSq).trans m1; have s2 := (World.cell?_of_block (w := w5') (a := ⟨g, o + 2, none⟩) hSq).trans m2; go_simp <;> first | with_reducible rfl | rfl)
                simp only [Act.put, List.setIfInBounds_toArray, List.set_cons_zero, List.set_cons_succ]
                refine take_on (i := 1) (v := ?_) rfl rfl (by kernel_rfl) (by kernel_rfl) (by kernel_rfl) (fun _ _ _ h => h) rfl ?_ hHeld ?_
                rotate_left
                · (intro wq hSq; have s0 := (World.cell?_of_block (w := w5') (a := ⟨g, o, none⟩) hSq).trans m0; have s1 := (World.cell?_of_block (w := w5') (a := ⟨g, o + 1, none⟩) hSq).trans m1; have s2 := (World.cell?_of_block (w := w5') (a := ⟨g, o + 2, none⟩) hSq).trans m2; go_simp <;> first | with_reducible rfl | rfl)
                simp only [Act.put, List.setIfInBounds_toArray, List.set_cons_zero, List.set_cons_succ]
                refine take_on (i := 2) (v := ?_) rfl rfl (by kernel_rfl) (by kernel_rfl) (by kernel_rfl) (fun _ _ _ h => h) rfl ?_ hHeld ?_
                rotate_left
                · (intro wq hSq; have s0 := (World.cell?_of_block (w := w5') (a := ⟨g, o, none⟩) hSq).trans m0; have s1 := (World.cell?_of_block (w := w5') (a := ⟨g, o + 1, none⟩) hSq).trans m1; have s2 := (World.cell?_of_block (w := w5') (a := ⟨g, o + 2, none⟩) hSq).trans m2; go_simp <;> first | with_reducible rfl | rfl)
                simp only [Act.put, List.setIfInBounds_toArray, List.set_cons_zero, List.set_cons_succ]
                refine take_on (i := 3) (v := ?_) rfl rfl (by kernel_rfl) (by kernel_rfl) (by kernel_rfl) (fun _ _ _ h => h) rfl ?_ hHeld ?_
                rotate_left
                · (intro wq hSq; have s0 := (World.cell?_of_block (w := w5') (a := ⟨g, o, none⟩) hSq).trans m0; have s1 := (World.cell?_of_block (w := w5') (a := ⟨g, o + 1, none⟩) hSq).trans m1; have s2 := (World.cell?_of_block (w := w5') (a := ⟨g, o + 2, none⟩) hSq).trans m2; go_simp <;> first | with_reducible rfl | rfl)
                simp only [Act.put, List.setIfInBounds_toArray, List.set_cons_zero, List.set_cons_succ]
                refine take_on (i := 4) (v := ?_) rfl rfl (by kernel_rfl) (by kernel_rfl) (by kernel_rfl) (fun _ _ _ h => h) rfl ?_ hHeld ?_
                rotate_left
                · (intro wq hSq; have s0 := (World.cell?_of_block (w := w5') (a := ⟨g, o, none⟩) hSq).trans m0; have s1 := (World.cell?_of_block (w := w5') (a := ⟨g, o + 1, none⟩) hSq).trans m1; have s2 := (World.cell?_of_block (w := w5') (a := ⟨g, o + 2, none⟩) hSq).trans m2; go_simp <;> first | with_reducible rfl | rfl)
                simp only [Act.put, List.setIfInBounds_toArray, List.set_cons_zero, List.set_cons_succ]
                refine take_on (i := 5) (v := ?_) rfl rfl (by kernel_rfl) (by kernel_rfl) (by kernel_rfl) (fun _ _ _ h => h) rfl ?_ hHeld ?_
                rotate_left
                · (intro wq hSq; have s0 := (World.cell?_of_block (w := w5') (a := ⟨g, o, none⟩) hSq).trans m0; have s1 := (World.cell?_of_block (w := w5') (a := ⟨g, o + 1, none⟩) hSq).trans m1; have s2 := (World.cell?_of_block (w := w5') (a := ⟨g, o + 2, none⟩) hSq).trans m2; go_simp <;> first | with_reducible rfl | rfl)
                simp only [Act.put, List.setIfInBounds_toArray, List.set_cons_zero, List.set_cons_succ]
                refine take_on (i := 6) (v := ?_) rfl rfl (by kernel_rfl) (by kernel_rfl) (by kernel_rfl) (fun _ _ _ h => h) rfl ?_ hHeld ?_
                rotate_left
                · (intro wq hSq; have s0 := (World.cell?_of_block (w := w5') (a := ⟨g, o, none⟩) hSq).trans m0; have s1 := (World.cell?_of_block (w := w5') (a := ⟨g, o + 1, none⟩) hSq).trans m1; have s2 := (World.cell?_of_block (w := w5') (a := ⟨g, o + 2, none⟩) hSq).trans m2; go_simp <;> first | with_reducible rfl | rfl)
                simp only [Act.put, List.setIfInBounds_toArray, List.set_cons_zero, List.set_cons_succ]
                refine take_on (i := 7) (v := ?_) rfl rfl (by kernel_rfl) (by kernel_rfl) (by kernel_rfl) (fun _ _ _ h => h) rfl ?_ hHeld ?_
                rotate_left
                · (intro wq hSq; have s0 := (World.cell?_of_block (w := w5') (a := ⟨g, o, none⟩) hSq).trans m0; have s1 := (World.cell?_of_block (w := w5') (a := ⟨g, o + 1, none⟩) hSq).trans m1; have s2 := (World.cell?_of_block (w := w5') (a := ⟨g, o + 2, none⟩) hSq).trans m2; go_simp <;> first | with_reducible rfl | rfl)
                simp only [Act.put, List.setIfInBounds_toArray, List.set_cons_zero, List.set_cons_succ]
                refine take_on (i := 9) (v := ?_) rfl rfl (by kernel_rfl) (by kernel_rfl) (by kernel_rfl) (fun _ _ _ h => h) rfl ?_ hHeld ?_
                rotate_left
                · (intro wq hSq; have s0 := (World.cell?_of_block (w := w5') (a := ⟨g, o, none⟩) hSq).trans m0; have s1 := (World.cell?_of_block (w := w5') (a := ⟨g, o + 1, none⟩) hSq).trans m1; have s2 := (World.cell?_of_block (w := w5') (a := ⟨g, o + 2, none⟩) hSq).trans m2; go_simp <;> first | with_reducible rfl | rfl)
                simp only [Act.put, List.setIfInBounds_toArray, List.set_cons_zero, List.set_cons_succ]
                refine take_on (i := 10) (v := ?_) rfl rfl (by kernel_rfl) (by kernel_rfl) (by kernel_rfl) (fun _ _ _ h => h) rfl ?_ hHeld ?_
                rotate_left
                · (intro wq hSq; have s0 := (World.cell?_of_block (w := w5') (a := ⟨g, o, none⟩) hSq).trans m0; have s1 := (World.cell?_of_block (w := w5') (a := ⟨g, o + 1, none⟩) hSq).trans m1; have s2 := (World.cell?_of_block (w := w5') (a := ⟨g, o + 2, none⟩) hSq).trans m2; go_simp <;> first | with_reducible rfl | rfl)
                simp only [Act.put, List.setIfInBounds_toArray, List.set_cons_zero, List.set_cons_succ]
                refine take_on (i := 11) (v := ?_) rfl rfl (by kernel_rfl) (by kernel_rfl) (by kernel_rfl) (fun _ _ _ h => h) rfl ?_ hHeld ?_
                rotate_left
                · (intro wq hSq; have s0 := (World.cell?_of_block (w := w5') (a := ⟨g, o, none⟩) hSq).trans m0; have s1 := (World.cell?_of_block (w := w5') (a := ⟨g, o + 1, none⟩) hSq).trans m1; have s2 := (World.cell?_of_block (w := w5') (a := ⟨g, o + 2, none⟩) hSq).trans m2; go_simp <;> first | with_reducible rfl | rfl)
                simp only [Act.put, List.setIfInBounds_toArray, List.set_cons_zero, List.set_cons_succ]
                refine take_on (i := 12) (v := ?_) rfl rfl (by kernel_rfl) (by kernel_rfl) (by kernel_rfl) (fun _ _ _ h => h) rfl ?_ hHeld ?_
                rotate_left
                · (intro wq hSq; have s0 := (World.cell?_of_block (w := w5') (a := ⟨g, o, none⟩) hSq).trans m0; have s1 := (World.cell?_of_block (w := w5') (a := ⟨g, o + 1, none⟩) hSq).trans m1; have s2 := (World.cell?_of_block (w := w5') (a := ⟨g, o + 2, none⟩) hSq).trans m2; go_simp <;> first | with_reducible rfl | rfl)
                simp only [Act.put, List.setIfInBounds_toArray, List.set_cons_zero, List.set_cons_succ]
                refine take_on (i := 13) (v := ?_) rfl rfl (by kernel_rfl) (by kernel_rfl) (by kernel_rfl) (fun _ _ _ h => h) rfl ?_ hHeld ?_
                rotate_left
                · (intro wq hSq; have s0 := (World.cell?_of_block (w := w5') (a := ⟨g, o, none⟩) hSq).trans m0; have s1 := (World.cell?_of_block (w := w5') (a := ⟨g, o + 1, none⟩) hSq).trans m1; have s2 := (World.cell?_of_block (w := w5') (a := ⟨g, o + 2, none⟩) hSq).trans m2; go_simp <;> first | with_reducible rfl | rfl)
                simp only [Act.put, List.setIfInBounds_toArray, List.set_cons_zero, List.set_cons_succ]
                refine take_on (i := 14) (v := ?_) rfl rfl (by kernel_rfl) (by kernel_rfl) (by kernel_rfl) (fun _ _ _ h => h) rfl ?_ hHeld ?_
                rotate_left
                · (intro wq hSq; have s0 := (World.cell?_of_block (w := w5') (a := ⟨g, o, none⟩) hSq).trans m0; have s1 := (World.cell?_of_block (w := w5') (a := ⟨g, o + 1, none⟩) hSq).trans m1; have s2 := (World.cell?_of_block (w := w5') (a := ⟨g, o + 2, none⟩) hSq).trans m2; go_simp <;> first | with_reducible rfl | rfl)
                simp only [Act.put, List.setIfInBounds_toArray, List.set_cons_zero, List.set_cons_succ]
                refine take_on (i := 15) (v := ?_) rfl rfl (by kernel_rfl) (by kernel_rfl) (by kernel_rfl) (fun _ _ _ h => h) rfl ?_ hHeld ?_
                rotate_left
                · (intro wq hSq; have s0 := (World.cell?_of_block (w := w5') (a := ⟨g, o, none⟩) hSq).trans m0; have s1 := (World.cell?_of_block (w := w5') (a := ⟨g, o + 1, none⟩) hSq).trans m1; have s2 := (World.cell?_of_block (w := w5') (a := ⟨g, o + 2, none⟩) hSq).trans m2; go_simp <;> first | with_reducible rfl | rfl)
                simp only [Act.put, List.setIfInBounds_toArray, List.set_cons_zero, List.set_cons_succ]
                refine take_on (i := 16) (v := ?_) rfl rfl (by kernel_rfl) (by kernel_rfl) (by kernel_rfl) (fun _ _ _ h => h) rfl ?_ hHeld ?_
                rotate_left
                · (intro wq hSq; have s0 := (World.cell?_of_block (w := w5') (a := ⟨g, o, none⟩) hSq).trans m0; have s1 := (World.cell?_of_block (w := w5') (a := ⟨g, o + 1, none⟩) hSq).trans m1; have s2 := (World.cell?_of_block (w := w5') (a := ⟨g, o + 2, none⟩) hSq).trans m2; go_simp <;> first | with_reducible rfl | rfl)
                simp only [Act.put, List.setIfInBounds_toArray, List.set_cons_zero, List.set_cons_succ]
                refine take_one (i := 8) rfl (by kernel_rfl) (fun K hK => ?_)
                go_simp
                (refine (sc1 _ hy0).mono ?_; rintro e z1 ⟨a1, c1, zp1, rfl, ho1, hv1, hs1, hz1⟩; have hy1 := hy0.trans (hz1.mono (by have := hy0.size; omega)); clear sc1)
                try go_wp2_with fail
                refine hK.out _ _ ?_ (fun hHeld => ?_)
                · exact hy1.block _ hgl
                clear hK K
                try simp only [Act.put, List.setIfInBounds_toArray, List.set_cons_zero, List.set_cons_succ]
                refine take_one (i := 17) rfl (by kernel_rfl) (fun K hK => ?_)
                go_simp
                (refine (sc2 _ hy1).mono ?_; rintro e z2 ⟨a2, c2, zp2, rfl, ho2, hv2, hs2, hz2⟩; have hy2 := hy1.trans (hz2.mono (by have := hy1.size; omega)); clear sc2; have hsy : saysP (zp1 ++ zp2) = scanA C l0.data.toList l2.data.toList st := by (rw [says_app, hs1, hs2]; exact HCU.out))
                try go_wp2_with fail
                refine hK.out _ _ ?_ (fun hHeld => ?_)
                · exact hy2.block _ hgl
                clear hK K
                try simp only [Act.put, List.setIfInBounds_toArray, List.set_cons_zero, List.set_cons_succ]
                refine take_one (i := 18) rfl (by kernel_rfl) (fun K hK => ?_)
                obtain ⟨a5, c5, z3, hrun, ho3, hv3, hg3⟩ := app_pairs (OwnS.below ho1 hz2) (fun y hy => (hv1 y hy).below hz2) ho2 hv2 (by have := (says_z HFi.out hsy).1; rwa [List.length_append] at this) hy2.size
                have hy3 := hy2.grown hg3 hy2.size (fun j e => (OwnS.inside ho1 j e).1)
                refine step_append_run rfl _ _ _ rfl _ _ _ _ rfl rfl hrun ?_
                refine hK.out _ _ ?_ (fun hHeld => ?_)
                · exact hy3.block _ hgl
                clear hK K
                try simp only [Act.put, List.setIfInBounds_toArray, List.set_cons_zero, List.set_cons_succ]
                refine take_on (i := 19) (v := ?_) rfl rfl (by kernel_rfl) (by kernel_rfl) (by kernel_rfl) (fun _ _ _ h => h) rfl ?_ hHeld ?_
                rotate_left
                · (intro wq hSq; have s0 := (World.cell?_of_block (w := w5') (a := ⟨g, o, none⟩) hSq).trans m0; have s1 := (World.cell?_of_block (w := w5') (a := ⟨g, o + 1, none⟩) hSq).trans m1; have s2 := (World.cell?_of_block (w := w5') (a := ⟨g, o + 2, none⟩) hSq).trans m2; go_simp <;> first | with_reducible rfl | rfl)
                simp only [Act.put, List.setIfInBounds_toArray, List.set_cons_zero, List.set_cons_succ]
                refine wpAnyH_done (by kernel_rfl) ?_ _
                rw [List.length_append] at ho3
                have HP3 := hide_it (OwP.row ho3 hv3)
                have HSY := hide_it hsy
                have hq0 := (Below.refl z3.heap.size z3).drew
                have hgz : g < z3.heap.size := by have := hy3.size; omega
                have e3 := hy3.block g hgl
                have n0 := (World.cell?_of_block (w := w5') (a := ⟨g, o, none⟩) e3).trans m0
                have n2 := (World.cell?_of_block (w := w5') (a := ⟨g, o + 2, none⟩) e3).trans m2
                have HY3 := hide_it hy3
                clear hrun ho3 hv3 hg3 ho1 hv1 hs1 ho2 hv2 hs2 hsy hz1 hz2 hy0 hy1 hy2 hy3 e3 m0 m1 m2
                generalize zp1.length + zp2.length = PL at *
                go_wp2_with fail
                refine wp_region_held_drew (S := (fun w' => w'.heap[g]? = z3.heap[g]?)) (by kernel_rfl) ?_ (fun hHeld => ?_)
                · rfl
                refine take_on (i := 0) (v := ?_) rfl rfl (by kernel_rfl) (by kernel_rfl) (by kernel_rfl) (fun _ _ _ h => h) rfl ?_ hHeld ?_
                rotate_left
                · (intro wq hSq; have s0 := (World.cell?_of_block (w := z3) (a := ⟨g, o, none⟩) hSq).trans n0; have s2 := (World.cell?_of_block (w := z3) (a := ⟨g, o + 2, none⟩) hSq).trans n2; go_simp <;> first | with_reducible rfl | rfl)
                simp only [Act.put, List.setIfInBounds_toArray, List.set_cons_zero, List.set_cons_succ]
                refine take_on (i := 1) (v := ?_) rfl rfl (by kernel_rfl) (by kernel_rfl) (by kernel_rfl) (fun _ _ _ h => h) rfl ?_ hHeld ?_
                rotate_left
                · (intro wq hSq; have s0 := (World.cell?_of_block (w := z3) (a := ⟨g, o, none⟩) hSq).trans n0; have s2 := (World.cell?_of_block (w := z3) (a := ⟨g, o + 2, none⟩) hSq).trans n2; go_simp <;> first | with_reducible rfl | rfl)
                simp only [Act.put, List.setIfInBounds_toArray, List.set_cons_zero, List.set_cons_succ]
                refine take_on (i := 2) (v := ?_) rfl rfl (by kernel_rfl) (by kernel_rfl) (by kernel_rfl) (fun _ _ _ h => h) rfl ?_ hHeld ?_
                rotate_left
                · (intro wq hSq; have s0 := (World.cell?_of_block (w := z3) (a := ⟨g, o, none⟩) hSq).trans n0; have s2 := (World.cell?_of_block (w := z3) (a := ⟨g, o + 2, none⟩) hSq).trans n2; go_simp <;> first | with_reducible rfl | rfl)
                simp only [Act.put, List.setIfInBounds_toArray, List.set_cons_zero, List.set_cons_succ]
                refine take_on (i := 3) (v := ?_) rfl rfl (by kernel_rfl) (by kernel_rfl) (by kernel_rfl) (fun _ _ _ h => h) rfl ?_ hHeld ?_
                rotate_left
                · (intro wq hSq; have s0 := (World.cell?_of_block (w := z3) (a := ⟨g, o, none⟩) hSq).trans n0; have s2 := (World.cell?_of_block (w := z3) (a := ⟨g, o + 2, none⟩) hSq).trans n2; go_simp <;> first | with_reducible rfl | rfl)
                simp only [Act.put, List.setIfInBounds_toArray, List.set_cons_zero, List.set_cons_succ]
                refine take_on (i := 4) (v := ?_) rfl rfl (by kernel_rfl) (by kernel_rfl) (by kernel_rfl) (fun _ _ _ h => h) rfl ?_ hHeld ?_
                rotate_left
                · (intro wq hSq; have s0 := (World.cell?_of_block (w := z3) (a := ⟨g, o, none⟩) hSq).trans n0; have s2 := (World.cell?_of_block (w := z3) (a := ⟨g, o + 2, none⟩) hSq).trans n2; go_simp <;> first | with_reducible rfl | rfl)
                simp only [Act.put, List.setIfInBounds_toArray, List.set_cons_zero, List.set_cons_succ]
                refine take_on (i := 5) (v := ?_) rfl rfl (by kernel_rfl) (by kernel_rfl) (by kernel_rfl) (fun _ _ _ h => h) rfl ?_ hHeld ?_
                rotate_left
                · (intro wq hSq; have s0 := (World.cell?_of_block (w := z3) (a := ⟨g, o, none⟩) hSq).trans n0; have s2 := (World.cell?_of_block (w := z3) (a := ⟨g, o + 2, none⟩) hSq).trans n2; go_simp <;> first | with_reducible rfl | rfl)
                simp only [Act.put, List.setIfInBounds_toArray, List.set_cons_zero, List.set_cons_succ]
                refine take_on (i := 6) (v := ?_) rfl rfl (by kernel_rfl) (by kernel_rfl) (by kernel_rfl) (fun _ _ _ h => h) rfl ?_ hHeld ?_
                rotate_left
                · (intro wq hSq; have s0 := (World.cell?_of_block (w := z3) (a := ⟨g, o, none⟩) hSq).trans n0; have s2 := (World.cell?_of_block (w := z3) (a := ⟨g, o + 2, none⟩) hSq).trans n2; go_simp <;> first | with_reducible rfl | rfl)
                simp only [Act.put, List.setIfInBounds_toArray, List.set_cons_zero, List.set_cons_succ]
                refine take_on (i := 7) (v := ?_) rfl rfl (by kernel_rfl) (by kernel_rfl) (by kernel_rfl) (fun _ _ _ h => h) rfl ?_ hHeld ?_
                rotate_left
                · (intro wq hSq; have s0 := (World.cell?_of_block (w := z3) (a := ⟨g, o, none⟩) hSq).trans n0; have s2 := (World.cell?_of_block (w := z3) (a := ⟨g, o + 2, none⟩) hSq).trans n2; go_simp <;> first | with_reducible rfl | rfl)
                simp only [Act.put, List.setIfInBounds_toArray, List.set_cons_zero, List.set_cons_succ]
                refine take_on (i := 8) (v := ?_) rfl rfl (by kernel_rfl) (by kernel_rfl) (by kernel_rfl) (fun _ _ _ h => h) rfl ?_ hHeld ?_
                rotate_left
                · (intro wq hSq; have s0 := (World.cell?_of_block (w := z3) (a := ⟨g, o, none⟩) hSq).trans n0; have s2 := (World.cell?_of_block (w := z3) (a := ⟨g, o + 2, none⟩) hSq).trans n2; go_simp <;> first | with_reducible rfl | rfl)
                simp only [Act.put, List.setIfInBounds_toArray, List.set_cons_zero, List.set_cons_succ]
                refine take_one (i := 9) rfl (by kernel_rfl) (fun K hK => ?_)
                go_simp
                (refine (sc3 _ (HY3.out.trans (hq0.mono HY3.out.size))).mono ?_; rintro e z4 ⟨a6, c6, zp3, rfl, ho6, hv6, hs6, hz4⟩; have hq1 := hq0.trans (hz4.mono (by have := hq0.size; omega)); clear sc3; have hpa := pairsAlike_same (HP3.out.below hq1) (OwP.row ho6 hv6) (HSY.out.trans hs6.symm) (says_z HFi.out HSY.out).1 (says_z HFi.out HSY.out).2)
                try go_wp2_with fail
                refine hK.out _ _ ?_ (fun hHeld => ?_)
                · exact hq1.block _ hgz
                clear hK K
                try simp only [Act.put, List.setIfInBounds_toArray, List.set_cons_zero, List.set_cons_succ]
                refine take_one (i := 10) rfl (by kernel_rfl) (fun K hK => ?_)
                go_simp
                (refine hpa.mono ?_; rintro e z5 ⟨rfl, hz5⟩; have hq2 := hq1.trans (hz5.mono hq1.size))
                try go_wp2_with fail
                refine hK.out _ _ ?_ (fun hHeld => ?_)
                · exact hq2.block _ hgz
                clear hK K
                try simp only [Act.put, List.setIfInBounds_toArray, List.set_cons_zero, List.set_cons_succ]
                refine take_on (i := 11) (v := ?_) rfl rfl (by kernel_rfl) (by kernel_rfl) (by kernel_rfl) (fun _ _ _ h => h) rfl ?_ hHeld ?_
                rotate_left
                · (intro wq hSq; have s0 := (World.cell?_of_block (w := z3) (a := ⟨g, o, none⟩) hSq).trans n0; have s2 := (World.cell?_of_block (w := z3) (a := ⟨g, o + 2, none⟩) hSq).trans n2; go_simp <;> first | with_reducible rfl | rfl)
                simp only [Act.put, List.setIfInBounds_toArray, List.set_cons_zero, List.set_cons_succ]
                refine wpAnyH_done (by kernel_rfl) ?_ _
                have HZ := hide_it (HB8.out.trans ((HY3.out.trans (hq2.mono HY3.out.size)).mono HB8.out.size))
                clear hpa hq0 hq1 hq2 hz4 hz5 ho6 hv6 hs6
                go_wp2
                go_ret
                exact ⟨rfl, HZ.out⟩
end Go.Proofs.Ythaknohnccmfoaa.storeScans

namespace Go.Proofs.Ythaknohnccmfoaa
open Go.RowKit

/-- A call: which, with which text. -/
structure Sp where
  k : Int
  s : ByteArray
/-- A row of them. -/
def RowT (w : World) (a : Option Addr) (n : Nat) (A : Nat → Sp) : Prop :=
  n = 0 ∨ ∃ b o, a = some ⟨b, o, none⟩ ∧ b < w.heap.size ∧ ∀ i, i < n → w.cell? ⟨b, o + i * 2, none⟩ = some (.int .i64 (A i).k) ∧ w.cell? ⟨b, o + i * 2 + 1, none⟩ = some (.string (A i).s)
theorem RowT.here {w : World} {a : Option Addr} {n : Nat} {A : Nat → Sp} (h : RowT w a n A) {i : Nat} (hi : i < n) :
    ∃ b o, a = some ⟨b, o, none⟩ ∧ b < w.heap.size ∧ w.cell? ⟨b, o + i * 2, none⟩ = some (.int .i64 (A i).k) ∧ w.cell? ⟨b, o + i * 2 + 1, none⟩ = some (.string (A i).s) := by
  rcases h with h | ⟨b, o, e, hlt, hc⟩
  · omega
  · exact ⟨b, o, e, hlt, hc i hi⟩
structure CameT (w : World) (a : Option Addr) (n : Nat) (A : Nat → Sp) : Prop where
  row : RowT w a n A
  size : 24 * n ≤ 140737488355328
end Go.Proofs.Ythaknohnccmfoaa

namespace Go.Proofs.Ythaknohnccmfoaa
open Go.ChangeShapes Go.WideShapes Go.ChangeAt Go.RowKit


end Go.Proofs.Ythaknohnccmfoaa

namespace Go.Proofs.Ythaknohnccmfoaa
open Go.ChangeShapes Go.WideShapes Go.ChangeAt Go.RowKit Go.Joins Go.Deep

theorem cellsIntQ : Try.prog.cellsOf 3 = 1 := by kernel_rfl
theorem cellsStrQ : Try.prog.cellsOf 9 = 1 := by kernel_rfl



section
variable {H : Type} {enc : TypeId × Value → H} {W : World}


/-- One call, told by its two cells. -/
def SpAt (cs : List Value) (t : Sp) : Prop := cs[0]? = some (.int .i64 t.k) ∧ cs[1]? = some (.string t.s)
































































end
end Go.Proofs.Ythaknohnccmfoaa

namespace Go.Proofs.Ythaknohnccmfoaa
open Go.ChangeShapes Go.WideShapes Go.ChangeAt Go.RowKit Go.Joins Go.Deep

section
variable {H : Type} {enc : TypeId × Value → H} {W : World}

set_option maxRecDepth 100000 in
theorem open_strs {base : Nat} {v : Value} {d : DataW H} {p : List MemPlace} (hok : Value.okWide Try.prog W .any base 57 v) (h : DataW.Trod enc Try.prog W 0 (fun _ => true) true 57 v d p) :
    ∃ (a : Option Addr) (cap : Nat) (th : List ByteArray), v = .slice a th.length cap ∧ RwS W a th ∧ (a = none → th.length = 0 ∧ cap = 0) := by
  obtain ⟨a0, len0, cap0, rfl⟩ := okWide_slice Try.underlying57 hok
  obtain ⟨fuel, hf⟩ := h
  rcases open_slice Try.underlying57 hf with ⟨hcs, hx⟩ | ⟨a, len, cap, m, n, D, Pl, hcs, _, hl, _, hm, hx, hall⟩
  · simp [Value.cells] at hcs
    obtain ⟨rfl, rfl, rfl⟩ := hcs
    exact ⟨none, 0, [], rfl, .inl rfl, fun _ => ⟨rfl, rfl⟩⟩
  · simp [Value.cells] at hcs
    obtain ⟨rfl, rfl, rfl⟩ := hcs
    have hmc : m = cap0 := by simpa using hm
    rw [cellsStrQ] at hall
    have each : ∀ i, ∃ t : ByteArray, i < len0 → W.cell? (a.add i) = some (.string t) := fun i => by
      by_cases hi : i < len0
      · obtain ⟨cs', h1, h2⟩ := hall i (by omega)
        obtain ⟨t, ht, _, _⟩ := DataW.trod_string Try.underlying9 h2
        obtain ⟨_, _, hc⟩ := World.cells?_some h1
        refine ⟨t, fun _ => ?_⟩
        have h0 := hc 0 (by omega)
        rw [add_add, Nat.add_zero, Nat.mul_one] at h0
        rw [h0, ht]
        rfl
      · exact ⟨.empty, fun h => absurd h hi⟩
    obtain ⟨T, hT⟩ : ∃ T : Nat → ByteArray, ∀ i, i < len0 → W.cell? (a.add i) = some (.string (T i)) := ⟨fun i => (each i).choose, fun i hi => (each i).choose_spec hi⟩
    clear each
    refine ⟨some a, cap0, (List.range len0).map T, by simp, ?_, fun e => by cases e⟩
    by_cases h0 : len0 = 0
    · exact .inl (by simp [h0])
    · obtain ⟨bk, off, spot⟩ := a
      have hspot : spot = none := by
        have q := hT 0 (by omega)
        simpa [Addr.add] using World.cell?_spot q
      subst hspot
      refine .inr ⟨bk, off, rfl, World.block_lt_of_cell? W _ (hT 0 (by omega)), fun i hi => ?_⟩
      have hi' : i < len0 := by simpa using hi
      have q := hT i hi'
      rw [Addr.add_lit] at q
      simpa using q
end
end Go.Proofs.Ythaknohnccmfoaa

namespace Go.Proofs.Ythaknohnccmfoaa
open Go.ChangeShapes Go.WideShapes Go.ChangeAt Go.RowKit Go.Joins Go.Deep

theorem strs_cap {H : Type} {enc : TypeId × Value → H} {W : World} {a : Option Addr} {n cap : Nat} {d : DataW H} {p : List MemPlace} (h : DataW.Trod enc Try.prog W 0 (fun _ => true) true 57 (.slice a n cap) d p) : n ≤ cap := by
  obtain ⟨fuel, hf⟩ := h
  rcases open_slice Try.underlying57 hf with ⟨hcs, _⟩ | ⟨a', len, cap', m, k, D, Pl, hcs, _, hl, _, _, _, _⟩
  · simp [Value.cells] at hcs
    obtain ⟨_, rfl, rfl⟩ := hcs
    omega
  · simp [Value.cells] at hcs
    obtain ⟨_, rfl, rfl⟩ := hcs
    exact hl
end Go.Proofs.Ythaknohnccmfoaa

namespace Go.Proofs.Ythaknohnccmfoaa.storeScans
open Go.ChangeShapes Go.WideShapes Go.ChangeAt Go.RowKit
open Go.ChangeMaps (open_string shut_string)

set_option maxRecDepth 100000 in
theorem lifted (os : Os) (started : os.Started) (H : Type) (enc : TypeId × Value → H) :
    ReturnsInHanded {} Try.checked os 7 .any (Rows.storeScansSpec.pre6 enc Try.prog Try.f7 Rows.storeScansRow.domain false) (Rows.storeScansSpec.post enc Try.prog Try.f7 false true false false) := by
  refine returnsInHanded_of_change_sized (C := Try.checked) own started (by kernel_rfl) Try.func7
    (ChangeSpec.witness6 (enc := enc) (C := Try.checked) false ⟨#[], #[.slice none 0 0, .slice none 0 0, .int .i64 0], []⟩ 8 (by kernel_rfl) (by kernel_rfl) (by kernel_rfl) (by kernel_rfl)) ?_
  intro W base args ds gs before hval0 hW _ hsz0 _
  have hsz : (DataW.weightsEach Try.prog (Try.f7.params.toList ++ Rows.storeScansSpec.plain.varTypes Try.prog) (ds ++ gs)).all (· ≤ reachBytes) = true := hsz0
  clear hsz0
  have hval : ∀ (j : Nat) t v, Try.f7.params[j]? = some t → args[j]? = some v → Value.okWide Try.prog W .any base t v := hval0
  have hW' := hW
  obtain ⟨p, q, hA0, hV, rfl, _, _⟩ := hW
  have hA : DataW.TrodAll enc Try.prog W 0 (fun _ => true) true Try.f7.params.toList args.toList ds p := hA0
  rw [Try.params7] at hA hval hsz
  obtain ⟨v0, vs0, d0, ds0, p0, q0, hargs, rfl, rfl, h0, r0⟩ := trodAll_cons hA
  obtain ⟨v1, vs1, d1, ds1, p1, q1, rfl, rfl, rfl, h1, r1⟩ := trodAll_cons r0
  obtain ⟨v2, vs2, d2, ds2, p2, q2, rfl, rfl, rfl, h2, r2⟩ := trodAll_cons r1
  obtain ⟨rfl, rfl, rfl⟩ := trodAll_nil r2
  obtain rfl : args = #[v0, v1, v2] := by cases args; simp_all
  obtain ⟨rfl, rfl⟩ := trodVars_none hV
  have k0 := h0
  have lt0 : ∀ x ∈ p0, x.block < W.heap.size := by obtain ⟨m, hm⟩ := k0; exact DataW.trod_lt m _ _ _ hm
  obtain ⟨a0, n0, c0, A0, rfl, s0⟩ := open_Vsns (hval 0 23 v0 rfl rfl) h0 (fits_param hsz (j := 0) rfl rfl)
  have k1 := h1
  have lt1 : ∀ x ∈ p1, x.block < W.heap.size := by obtain ⟨m, hm⟩ := k1; exact DataW.trod_lt m _ _ _ hm
  obtain ⟨a1, c1, A1, rfl, s1, _⟩ := open_strs (hval 1 57 v1 rfl rfl) h1
  obtain ⟨n2, rfl, rfl, rfl, w2⟩ := open_int Try.underlying3 (hval 2 3 v2 rfl rfl) h2
  clear hA0 hval0
  refine (walk a0 n0 c0 A0 a1 c1 A1 n2 (bounds_i64 w2) W s0 s1 (strs_cap h1)).mono fun e W' ⟨he, bel⟩ => ?_
  subst he
  exact ⟨_, rfl, _, _, _, [], _, [], hW', trodAll_mk1 (shut_bool Try.underlying4 _), (trodAll_cons_mk (Below.trod laidOut (by kernel_rfl) (of_decide_eq_true (by kernel_rfl)) k0 bel lt0) (trodAll_cons_mk (Below.trod laidOut (by kernel_rfl) (of_decide_eq_true (by kernel_rfl)) k1 bel lt1) (trodAll_cons_mk (shut_int Try.underlying3 w2) trodAll_mk0))), rfl, bel.frame _, fun h => by cases h⟩

theorem over : Rows.storeScansRow.holds Try.pinned (OpenSpec.ofChange Rows.storeScansSpec) :=
  OpenClaim.holds_of_wide 7 Try.f7 rfl rfl rfl rfl rfl rfl rfl ⟨rfl, rfl, rfl, rfl, rfl⟩ rfl rfl rfl rfl rfl (by kernel_rfl) Try.func7 (by kernel_rfl)
    (of_decide_eq_true (by kernel_rfl)) (by unfold Func.isWrapper; first | (rw [if_pos (by decide +kernel)]; kernel_rfl) | (rw [if_neg (by decide +kernel)]; exact ⟨rfl, rfl⟩))
    (fun os started H enc _ => lifted os started H enc)

end Go.Proofs.Ythaknohnccmfoaa.storeScans

namespace Go.Proofs.Ythaknohnccmfoaa
theorem storeScans_holds : Rows.StoreScansSaid := storeScans.over
#print axioms storeScans_holds
end Go.Proofs.Ythaknohnccmfoaa
