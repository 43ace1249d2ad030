/- What Close answers, in one form; that the order and the number of times play no part; what is its own closure; lists of labels of the call's own. -/
import Derived.Test.YthclmkmajlinhabRCl3
import Derived.Laws.AppendOwnNone
namespace Go.Proofs.Ythclmkmajlinhab
open Go.RowKit

/-- What Close answers of a list: the labels, the error's number. -/
def Res (zs G : List Nat) (n : Nat) : Prop := (n = 10 ∧ G = [] ∧ (zs = [] ∨ Many zs)) ∨ (n = 0 ∧ zs ≠ [] ∧ IsCl zs G)

theorem InCl.same {B C : List Nat} (h : ∀ x, x ∈ B ↔ x ∈ C) (x : Nat) : InCl B x ↔ InCl C x :=
  ⟨fun hx => hx.mono (fun b hb => .base ((h b).1 hb)), fun hx => hx.mono (fun b hb => .base ((h b).2 hb))⟩
theorem Many.same {B C : List Nat} (h : ∀ x, x ∈ B ↔ x ∈ C) (hm : Many B) : Many C := by
  obtain ⟨X, h1, h2, h3⟩ := hm
  exact ⟨X, h1, h2, fun x hx => (InCl.same h x).1 (h3 x hx)⟩
theorem IsCl.same {B C G : List Nat} (h : ∀ x, x ∈ B ↔ x ∈ C) (hg : IsCl B G) : IsCl C G := ⟨fun x => (hg.mem x).trans (InCl.same h x), hg.nodup, hg.len, hg.rising⟩
theorem nil_same {B C : List Nat} (h : ∀ x, x ∈ B ↔ x ∈ C) (e : B = []) : C = [] := by
  cases C with
  | nil => rfl
  | cons c t => have := (h c).2 List.mem_cons_self; rw [e] at this; cases this
theorem Res.unique {B C G H : List Nat} {n m : Nat} (h : ∀ x, x ∈ B ↔ x ∈ C) (hg : Res B G n) (hh : Res C H m) : G = H ∧ n = m := by
  rcases hg with ⟨rfl, rfl, h1⟩ | ⟨rfl, h1, h2⟩ <;> rcases hh with ⟨rfl, rfl, h3⟩ | ⟨rfl, h3, h4⟩
  · exact ⟨rfl, rfl⟩
  · rcases h1 with e | e
    · exact absurd (nil_same h e) h3
    · exact absurd (e.same h) h4.few
  · rcases h3 with e | e
    · exact absurd (nil_same (fun x => (h x).symm) e) h1
    · exact absurd (e.same (fun x => (h x).symm)) h2.few
  · exact ⟨(h2.same h).unique h4, rfl⟩
theorem IsCl.closed {zs C : List Nat} (h : IsCl zs C) : ClosedL C := fun x hx y hy => by
  have := ((h.mem x).1 hx).step ((h.mem y).1 hy)
  exact ⟨(h.mem _).2 this.1, (h.mem _).2 this.2⟩
theorem IsCl.self {zs C : List Nat} (h : IsCl zs C) : IsCl C C := ⟨fun _x => ⟨fun hx => .base hx, fun hx => hx.mem (fun _ hb => hb) h.closed⟩, h.nodup, h.len, h.rising⟩
theorem IsCl.ne {zs C : List Nat} (h : IsCl zs C) (hz : zs ≠ []) : C ≠ [] := fun e => by
  cases zs with
  | nil => exact hz rfl
  | cons z t => have := (h.mem z).2 (.base List.mem_cons_self); rw [e] at this; cases this
theorem IsCl.check {zs C : List Nat} (h : IsCl zs C) (hz : zs ≠ []) : checkOf C = 0 := by
  have hne := h.ne hz
  have hpos : 0 < C.length := by cases C with | nil => exact absurd rfl hne | cons c t => simp
  have hl := h.len
  have hr : risesB C = true := risesB_iff.2 (strict_of_sorted h.nodup h.rising)
  have hc : closedB C = true := closedB_iff.2 (fun i j hi hj => h.closed _ (at0_mem hi) _ (at0_mem hj))
  unfold checkOf
  rw [if_neg (by omega), if_neg (by simp [hr]), if_neg (by simp [hc])]
/-- A lattice that has all has all of the closure. -/
theorem whole_has {zs os : List Nat} (hc : checkOf os = 0) (hs : ∀ x ∈ zs, x ∈ os) {x : Nat} (hx : InCl zs x) : x ∈ os := by
  have hcl : closedB os = true := by
    unfold checkOf at hc
    split at hc
    · cases hc
    · split at hc
      · cases hc
      · split at hc
        · cases hc
        · rename_i h; simpa using h
  refine hx.mem hs (fun a ha b hb => ?_)
  obtain ⟨i, hi, rfl⟩ := mem_at0 ha
  obtain ⟨j, hj, rfl⟩ := mem_at0 hb
  exact closedB_iff.1 hcl i j hi hj
theorem whole_few {zs os : List Nat} (hc : checkOf os = 0) (hs : ∀ x ∈ zs, x ∈ os) : ¬ Many zs := fun ⟨X, h1, h2, h3⟩ => by
  have := nodup_le h1 (fun x hx => whole_has hc hs (h3 x hx))
  have h16 : os.length ≤ 16 := by
    unfold checkOf at hc
    split at hc
    · cases hc
    · omega
  omega

set_option maxHeartbeats 400000 in
theorem close_res (N : Nat) (hN : SortsL N) (h16 : 16 ≤ N) (a : Option Addr) (cap : Nat) (zs : List Nat) (w : World) (hr : Row w a zs) (h64 : All64 zs) (hl : zs.length ≤ maxLen) :
    Calls Try.prog 9 #[.slice a zs.length cap] w fun e w' => (∃ ga gc G n, e = .returned (.tuple #[.slice ga (List.length G) gc, .int .i64 ((n : Nat) : Int)]) ∧ Res zs G n ∧ Row w' ga G ∧ G.length ≤ gc) ∧ Below w.heap.size w w' := by
  refine (close_any N hN a cap zs w hr h64 hl (fun S _ hs _ => by omega)).mono fun e w' ⟨hb, hor⟩ => ⟨?_, hb⟩
  rcases hor with ⟨rfl, h1⟩ | ⟨v, C, rfl, h1, h2, h3⟩
  · exact ⟨none, 0, [], 10, rfl, .inl ⟨rfl, rfl, h1⟩, .inl rfl, by simp⟩
  · obtain ⟨ga, gc, rfl, hrow, hle⟩ := row_of_owns h3
    exact ⟨ga, gc, C, 0, rfl, .inr ⟨rfl, h1, h2⟩, hrow, hle⟩
theorem Res.all64 {zs G : List Nat} {n : Nat} (h : Res zs G n) (h64 : All64 zs) : All64 G := by
  rcases h with ⟨_, rfl, _⟩ | ⟨_, _, h2⟩
  · intro z hz; cases hz
  · intro z hz; exact ((h2.mem z).1 hz).w64 h64
theorem Res.len {zs G : List Nat} {n : Nat} (h : Res zs G n) : G.length ≤ 16 := by
  rcases h with ⟨_, rfl, _⟩ | ⟨_, _, h2⟩
  · simp
  · exact h2.len

/-- v is a slice of the call's own that holds the labels zs. -/
def OwnLb (w : World) (base : Nat) (v : Value) (zs : List Nat) : Prop := w.ownsRow base 36 1 v zs.length (zs.map encU)

theorem wpList_append_rowLb (w : World) {ops : Array Oper} {rest : List Oper} {o : Oper} {act : Act} {Q : Exit → Act → World → Prop} (hgd : o.guard = none) (s x : Operand)
    (ho : o.op = .call { callee := .builtin .append, args := #[s, x], argTypes := #[22, 22] })
    (base : Nat) (v : Value) (xs : List Nat) (hs : act.eval s = v) (hown : OwnLb w base v xs) (a : Option Addr) (cap : Nat) (zs : List Nat) (hx : act.eval x = .slice a zs.length cap) (hr : Row w a zs) (hnil : a = none → zs.length = 0 ∧ cap = 0)
    (hl : (xs.length + zs.length) * 8 ≤ 140737488355328) (hbase : base ≤ w.heap.size)
    (h : ∀ v' w', OwnLb w' base v' (xs ++ zs) → w.grownBy w' v.ownBlock → wpList Try.prog ops Q rest (act.put o.dst v') w') :
    wpList Try.prog ops Q (o :: rest) act w := by
  obtain ⟨i0, hi, hz0, hz1, hz2⟩ := info_parts infoLab
  cases a with
  | none =>
    obtain ⟨h1, h2⟩ := hnil rfl
    have hzs : zs = [] := List.eq_nil_of_length_eq_zero h1
    subst hzs
    subst h2
    refine wpList_append_own_none hgd s x 22 ho base 36 i0 1 Try.underlying22 hi v xs.length (xs.map encU) hs hown hx ?_
    exact h v w (by rw [List.append_nil]; exact hown) ⟨rfl, rfl, rfl, Nat.le_refl _, fun _ _ _ => rfl⟩
  | some ad =>
    have hnews : ∀ j u, (zs.map encU)[j]? = some u → w.cell? (ad.add j) = some u := fun j u hu => by
      have hj : j < zs.length := by have := (List.getElem?_eq_some_iff.1 hu).1; simpa using this
      obtain ⟨b, o, e, hlt, hc⟩ := hr.here hj
      cases e
      rw [Addr.add_lit, hc j hj]
      have := map_at0 (q := .u64) hj []
      rw [List.append_nil] at this
      exact this.symm.trans hu
    have hone : ∀ u ∈ zs.map encU, u.oneCell' = true := fun u hu => by
      obtain ⟨z, _, rfl⟩ := List.mem_map.1 hu
      rfl
    refine wpList_append_own_at _ hgd s x 22 ho base 36 i0 (.int .u64 0) 1 8 Try.underlying22 hi hz0 hz1 hz2 rfl (by omega) v xs.length (xs.map encU) hs hown ad zs.length cap (zs.map encU) hx (by simp) hnews hone (by unfold maxLen; omega) (by omega) hbase ?_
    intro v4 w4 hown4 hgrow4 hnil4 hat4
    exact h v4 w4 (by unfold OwnLb; simpa using hown4) hgrow4

end Go.Proofs.Ythclmkmajlinhab
