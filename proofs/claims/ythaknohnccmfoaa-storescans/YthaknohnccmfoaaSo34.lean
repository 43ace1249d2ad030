/- A store's versions, loaded, are the store. -/
import Derived.Test.YthaknohnccmfoaaSo33
namespace Go.Proofs.Ythaknohnccmfoaa
open Go.RowKit Go.Maps
open Go.WideAt (bytes_irrefl)
open Go.WideShapes (bytes_trans)

/-- A version that a store takes, but for its place. -/
def checkT (k : List UInt8) (l : Ver) : Prop := ¬ (k.length < 1 ∨ 255 < k.length) ∧ ¬ (4096 < l.b.length ∨ (l.d = true ∧ 0 < l.b.length)) ∧ ¬ (l.n < 0 ∨ 4611686018427387904 < l.n)
theorem check_iff (x : Vn) : checkE x = 0 ↔ checkT x.k.data.toList (verOf x) := by
  have hs : x.k.data.toList.length = x.k.size := by rw [Array.length_toList]; rfl
  unfold checkE checkT
  rw [hs]
  show _ ↔ ¬ (x.k.size < 1 ∨ 255 < x.k.size) ∧ ¬ (4096 < x.z.length ∨ (x.d = true ∧ 0 < x.z.length)) ∧ ¬ (x.n < 0 ∨ 4611686018427387904 < x.n)
  by_cases h1 : x.k.size < 1 ∨ 255 < x.k.size
  · rw [if_pos h1]; exact ⟨fun h => (by cases h), fun h => absurd h1 h.1⟩
  · rw [if_neg h1]
    by_cases h2 : 4096 < x.z.length ∨ (x.d = true ∧ 0 < x.z.length)
    · rw [if_pos h2]; exact ⟨fun h => (by cases h), fun h => absurd h2 h.2.1⟩
    · rw [if_neg h2]
      by_cases h3 : x.n < 0 ∨ 4611686018427387904 < x.n
      · rw [if_pos h3]; exact ⟨fun h => (by cases h), fun h => absurd h3 h.2.2⟩
      · rw [if_neg h3]; exact ⟨fun _ => ⟨h1, h2, h3⟩, fun _ => rfl⟩
/-- What is known of every key of a store that was filled. -/
structure GoodA (A : Cont) : Prop where
  ne : ∀ e ∈ A, e.2 ≠ []
  st : ∀ e ∈ A, e.2.Pairwise fun l m => l.n < m.n
  ok : ∀ e ∈ A, ∀ l ∈ e.2, checkT e.1 l
theorem GoodA.nil : GoodA [] := ⟨(fun e h => by cases h), (fun e h => by cases h), (fun e h => by cases h)⟩
theorem last_most {ls : List Ver} (h : ls.Pairwise fun l m => l.n < m.n) : ∀ a ∈ ls, a.n ≤ (vr ls (ls.length - 1)).n := fun a ha => by
  obtain ⟨i, hi, rfl⟩ := List.mem_iff_getElem.1 ha
  rw [← vr_get (show ls.length - 1 < ls.length by omega)]
  by_cases h1 : i = ls.length - 1
  · subst h1; exact Int.le_refl _
  · exact Int.le_of_lt (List.pairwise_iff_getElem.1 h i (ls.length - 1) hi (by omega) (by omega))
theorem snoc_rise {ls : List Ver} {l : Ver} (h : ls.Pairwise fun l m => l.n < m.n) (hl : ¬ lowV ls l.n) : (ls ++ [l]).Pairwise fun l m => l.n < m.n := by
  refine List.pairwise_append.2 ⟨h, List.pairwise_singleton _ _, fun a ha b hb => ?_⟩
  obtain rfl := List.mem_singleton.1 hb
  have h1 := last_most h a ha
  have h2 : 0 < ls.length := List.length_pos_of_mem ha
  unfold lowV at hl
  have : ¬ b.n ≤ (vr ls (ls.length - 1)).n := fun h3 => hl ⟨h2, h3⟩
  omega
theorem mem_setA {B : Cont} {k : List UInt8} {ls : List Ver} {e : List UInt8 × List Ver} (h : e ∈ setA B k ls) : e = (k, ls) ∨ (e ∈ B ∧ e.1 ≠ k) := by
  unfold setA at h
  obtain ⟨f, hf, h2⟩ := List.mem_map.1 h
  by_cases h3 : (f.1 == k) = true
  · rw [if_pos h3] at h2
    have : f.1 = k := by simpa using h3
    exact .inl (by rw [← h2, this])
  · rw [if_neg h3] at h2
    subst h2
    exact .inr ⟨hf, by simpa using h3⟩
theorem good_apply {A : Cont} (h : GoodA A) (x : Vn) : GoodA (applyA A x) := by
  unfold applyA
  split
  · rename_i h0
    have hc : checkE x = 0 ∧ ¬ lowV (lsOf A x.k.data.toList) x.n := by
      unfold applyE at h0
      split at h0
      · rename_i h1; exact absurd h0 h1
      · rename_i h1
        split at h0
        · cases h0
        · rename_i h2; exact ⟨by simpa using h1, h2⟩
    have hm : ∀ e ∈ addA A x.k.data.toList (verOf x), e = (x.k.data.toList, lsOf A x.k.data.toList ++ [verOf x]) ∨ e ∈ A := fun e he => by
      unfold addA at he
      rcases mem_setA he with h1 | ⟨h1, h2⟩
      · exact .inl h1
      · right
        split at h1
        · exact h1
        · rcases mem_insA h1 with h3 | h3
          · rw [h3] at h2; exact absurd rfl h2
          · exact h3
    refine ⟨fun e he => ?_, fun e he => ?_, fun e he l hl => ?_⟩
    · rcases hm e he with rfl | h1
      · simp
      · exact h.ne e h1
    · rcases hm e he with rfl | h1
      · refine snoc_rise ?_ hc.2
        rcases lsOf_in (A := A) (k := x.k.data.toList) with h2 | ⟨f, hf, _, h2⟩
        · rw [h2]; exact List.Pairwise.nil
        · rw [← h2]; exact h.st f hf
      · exact h.st e h1
    · rcases hm e he with rfl | h1
      · rcases List.mem_append.1 hl with h2 | h2
        · rcases lsOf_in (A := A) (k := x.k.data.toList) with h3 | ⟨f, hf, h4, h3⟩
          · rw [h3] at h2; cases h2
          · rw [← h3] at h2
            have := h.ok f hf l h2
            rwa [h4] at this
        · obtain rfl := List.mem_singleton.1 h2
          exact (check_iff x).1 hc.1
      · exact h.ok e h1 l hl
  · exact h
theorem loadA_cons (A : Cont) (y : Vn) (r : List Vn) : loadA A (y :: r) = if applyE A y = 0 then loadA (applyA A y) r else (A, applyE A y) := rfl
theorem loadA_append (A : Cont) (xs ys : List Vn) : loadA A (xs ++ ys) = if (loadA A xs).2 = 0 then loadA (loadA A xs).1 ys else loadA A xs := by
  induction xs generalizing A with
  | nil => simp [loadA]
  | cons x r ih =>
    rw [List.cons_append, loadA_cons, loadA_cons]
    by_cases h : applyE A x = 0
    · rw [if_pos h, if_pos h]; exact ih _
    · rw [if_neg h, if_neg h, if_neg h]
theorem setA_snoc {A : Cont} {k : List UInt8} {x ls : List Ver} (h : ∀ f ∈ A, f.1 ≠ k) : setA (A ++ [(k, x)]) k ls = A ++ [(k, ls)] := by
  unfold setA
  rw [List.map_append]
  congr 1
  · have h1 : ∀ f ∈ A, (if (f.1 == k) = true then (f.1, ls) else f) = f := fun f hf => if_neg (by simpa using h f hf)
    rw [List.map_congr_left h1]; simp
  · simp
theorem lsOf_snoc {A : Cont} {k : List UInt8} {x : List Ver} (h : ∀ f ∈ A, f.1 ≠ k) : lsOf (A ++ [(k, x)]) k = x := by
  unfold lsOf
  have h1 : A.find? (fun e => e.1 == k) = none := List.find?_eq_none.2 fun e he h2 => h e he (by simpa using h2)
  rw [List.find?_append, h1]
  simp
theorem insA_snoc {A : Cont} {k : List UInt8} (h : ∀ f ∈ A, bytesBefore f.1 k = true) : insA k A = A ++ [(k, [])] := by
  induction A with
  | nil => rfl
  | cons f r ih =>
    unfold insA
    have h1 := h f (List.mem_cons_self ..)
    have h2 : ¬ bytesBefore k f.1 = true := fun h3 => by
      have := bytes_trans _ _ _ h1 h3
      rw [bytes_irrefl] at this; cases this
    rw [if_neg h2, ih fun g hg => h g (List.mem_cons_of_mem _ hg)]; rfl
/-- One key's versions, loaded behind what lies before. -/
theorem load_key {A : Cont} {k : List UInt8} (h : ∀ f ∈ A, bytesBefore f.1 k = true) : ∀ (ls2 ls1 : List Ver) (ys : List Vn), saysV ys = ls2.map (fun l => (k, l)) → (ls1 ++ ls2).Pairwise (fun l m => l.n < m.n) → (∀ l ∈ ls2, checkT k l) →
    loadA (if ls1 = [] then A else A ++ [(k, ls1)]) ys = (if ls1 ++ ls2 = [] then A else A ++ [(k, ls1 ++ ls2)], 0)
  | [], ls1, ys, hs, _, _ => by
    have : ys = [] := by
      cases ys with
      | nil => rfl
      | cons y r => cases hs
    subst this
    rw [List.append_nil]; rfl
  | l :: t, ls1, ys, hs, hp, hc => by
    have hne : ∀ f ∈ A, f.1 ≠ k := fun f hf e => by
      have := h f hf
      rw [e, bytes_irrefl] at this; cases this
    cases ys with
    | nil => cases hs
    | cons y r =>
      unfold saysV at hs
      rw [List.map_cons, List.map_cons, List.cons.injEq, Prod.mk.injEq] at hs
      obtain ⟨⟨hk, hv⟩, hr⟩ := hs
      have hls : lsOf (if ls1 = [] then A else A ++ [(k, ls1)]) k = ls1 := by
        split
        · rename_i h1
          rw [h1]
          refine lsOf_has ?_
          unfold hasK
          rw [List.any_eq_false]
          exact fun e he h2 => hne e he (by simpa using h2)
        · exact lsOf_snoc hne
      have he : applyE (if ls1 = [] then A else A ++ [(k, ls1)]) y = 0 := by
        unfold applyE
        have h1 : checkE y = 0 := (check_iff y).2 (by rw [hk, hv]; exact hc l (List.mem_cons_self ..))
        rw [if_neg (by rw [h1]; simp), hk, hls]
        refine if_neg fun hlow => ?_
        have h2 := (List.pairwise_append.1 hp).2.2 (vr ls1 (ls1.length - 1)) (vr_mem (by have := hlow.1; omega)) l (List.mem_cons_self ..)
        have h3 : y.n = l.n := congrArg Ver.n hv
        have := hlow.2
        omega
      have ha : applyA (if ls1 = [] then A else A ++ [(k, ls1)]) y = if ls1 ++ [l] = [] then A else A ++ [(k, ls1 ++ [l])] := by
        unfold applyA addA
        rw [if_pos he, hk, hv, hls, if_neg (show ¬ ls1 ++ [l] = [] by simp)]
        by_cases h1 : ls1 = []
        · have h2 : hasK A k = false := by
            unfold hasK
            rw [List.any_eq_false]
            exact fun e he h2 => hne e he (by simpa using h2)
          rw [if_pos h1, h2, if_neg (by simp), insA_snoc h, setA_snoc hne]
        · have h2 : hasK (A ++ [(k, ls1)]) k = true := by
            unfold hasK; rw [List.any_append]; simp
          rw [if_neg h1, h2, if_pos rfl, setA_snoc hne]
      unfold loadA
      rw [if_pos he, ha, load_key h t (ls1 ++ [l]) r hr (by rw [List.append_assoc]; exact hp) fun m hm => hc m (List.mem_cons_of_mem _ hm), List.append_assoc]
      rfl
theorem load_from : ∀ (A2 A1 : Cont) (ys : List Vn), GoodA A2 → (A1 ++ A2).Pairwise (fun e f => bytesBefore e.1 f.1 = true) → saysV ys = versA A2 → loadA A1 ys = (A1 ++ A2, 0)
  | [], A1, ys, _, _, hs => by
    have : ys = [] := by
      cases ys with
      | nil => rfl
      | cons y r => cases hs
    subst this
    rw [List.append_nil]; rfl
  | e :: r, A1, ys, hg, hp, hs => by
    have hs2 : saysV ys = e.2.map (fun l => (e.1, l)) ++ versA r := by rw [hs]; unfold versA; rw [List.flatMap_cons]
    unfold saysV at hs2
    obtain ⟨ys1, ys2, rfl, h1, h2⟩ := List.map_eq_append_iff.1 hs2
    have hk := load_key (A := A1) (k := e.1) (fun f hf => (List.pairwise_append.1 hp).2.2 f hf e (List.mem_cons_self ..)) e.2 [] ys1 h1 (hg.st e (List.mem_cons_self ..)) (hg.ok e (List.mem_cons_self ..))
    rw [if_pos rfl, List.nil_append, if_neg (hg.ne e (List.mem_cons_self ..))] at hk
    rw [loadA_append, hk, if_pos rfl]
    have := load_from r (A1 ++ [e]) ys2 ⟨fun f hf => hg.ne f (List.mem_cons_of_mem _ hf), fun f hf => hg.st f (List.mem_cons_of_mem _ hf), fun f hf => hg.ok f (List.mem_cons_of_mem _ hf)⟩ (by rw [List.append_assoc]; exact hp) h2
    rw [List.append_assoc] at this
    exact this
theorem load_back {A : Cont} {ys : List Vn} (hg : GoodA A) (hp : A.Pairwise fun e f => bytesBefore e.1 f.1 = true) (hs : saysV ys = versA A) : loadA [] ys = (A, 0) := load_from A [] ys hg hp hs
theorem good_fil (A : Nat → Vsn) : ∀ n, GoodA (filA A n)
  | 0 => GoodA.nil
  | n + 1 => good_apply (good_fil A n) _

end Go.Proofs.Ythaknohnccmfoaa
