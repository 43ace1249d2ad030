/- The program's area, walked: fresh, end, leave, New, Append, Sync. -/
import Derived.Test.YtdodnegdpdhbiaaAr1
import Derived.RegionTactic
namespace Go.Proofs.Ytdodnegdpdhbiaa
open Go.RowKit

set_option maxRecDepth 100000 in
set_option maxHeartbeats 400000 in
theorem fresh_any (a : Option Addr) (cap : Nat) (zs : List Nat) (w : World) (hr : RowB w a zs) (hl : zs.length ≤ 211106232532800) (hnil : a = none → zs.length = 0 ∧ cap = 0) :
    Calls Try.prog 44 #[.slice a zs.length cap] w fun e w' => (∃ r, e = .returned r ∧ OwB w' w.heap.size r zs) ∧ Below w.heap.size w w' := by
  go_enter Try.func44, Try.ntmps44
  go_wp2_with (at_builtin; refine wpList_appendB _ rfl _ _ rfl w.heap.size _ [] rfl (OwB.nil _ _) a cap zs rfl hr hnil (by simp; omega) (Nat.le_refl _) ?_; intro v1 w1 hown1 hg1 hat1)
  have hb1 : Below w.heap.size w w1 := (Below.refl _ _).grown hg1 (Nat.le_refl _) (fun j e => by cases e)
  go_ret
  exact ⟨⟨_, rfl, hown1⟩, hb1⟩

set_option maxRecDepth 100000 in
set_option maxHeartbeats 400000 in
theorem end_any {p o : Nat} {v : Value} {B : Nat} {bs : List Nat} {k : Nat} (w : World) (h : Ar w p o v B bs k) :
    Calls Try.prog 45 #[.pointer (some ⟨p, o, none⟩)] w fun e w' => e = .returned (.int .i64 ((B + bs.length : Nat) : Int)) ∧ Below w.heap.size w w' := by
  obtain ⟨c0, _, c2, _⟩ := h.cells
  obtain ⟨a, cap, rfl, _⟩ := h.own.row
  have hr := h.room
  have hw : IntKind.i64.wrap ((B : Int) + (bs.length : Int)) = ((B + bs.length : Nat) : Int) := by rw [IntKind.wrap_i64]; omega
  obtain ⟨E, hE⟩ : ∃ E, E = B + bs.length := ⟨_, rfl⟩
  rw [← hE] at hw
  rw [← hE]
  clear h hr hE
  go_enter Try.func45, Try.ntmps45
  go_wp2
  go_region
  all_goals go_wp2
  all_goals go_ret
  all_goals exact ⟨rfl, (Below.refl _ _).drew⟩

set_option maxRecDepth 100000 in
set_option maxHeartbeats 400000 in
theorem leave_any {p o : Nat} {v : Value} {B : Nat} {bs : List Nat} {k : Nat} (w : World) (h : Ar w p o v B bs k) (from_ to : Nat) (h1 : from_ ≤ to) (h2 : to ≤ bs.length) :
    Calls Try.prog 79 #[.pointer (some ⟨p, o, none⟩), .int .i64 (from_ : Int), .int .i64 (to : Int)] w fun e w' => e = .returned (.tuple #[]) ∧ Moved w p o v B ((bs.take to).drop from_) k w' := by
  obtain ⟨c0, c1, c2, f0, f1, f2⟩ := h.cells
  obtain ⟨a, cap, rfl, hrow, hcap, hcm, hnil⟩ := h.own.row
  have hl := h.len
  have hw : IntKind.i64.wrap ((to : Int) - (from_ : Int)) = ((to - from_ : Nat) : Int) := by rw [IntKind.wrap_i64]; omega
  have hcut := OwB.drop (m := from_) (zs := bs.take to) (by rw [List.length_take, Nat.min_eq_left h2]; exact OwB.take h.own h2) (by rw [List.length_take, Nat.min_eq_left h2]; exact h1)
  rw [List.length_take, Nat.min_eq_left h2] at hcut
  obtain ⟨A, hA⟩ : ∃ A, (if cap = from_ then a else a.map (·.add from_)) = A := ⟨_, rfl⟩
  rw [hA] at hcut
  have hlen : ((bs.take to).drop from_).length = to - from_ := by simp; omega
  have h8 : All8 ((bs.take to).drop from_) := fun z hz => h.all z (List.mem_of_mem_take (List.mem_of_mem_drop hz))
  obtain ⟨zs, hzs⟩ : ∃ zs, zs = (bs.take to).drop from_ := ⟨_, rfl⟩
  rw [← hzs] at hcut hlen h8
  have hH := hide_it h
  have hroom := h.room
  by_cases hlt : to - from_ < bs.length
  · obtain ⟨a2, c2', e2, hrow2, _, _, hnil2⟩ := hcut.row
    rw [hlen] at e2
    cases e2
    have hfr := fresh_any A (cap - from_) zs w hrow2 (by omega) hnil2
    rw [hlen] at hfr
    rw [← hzs]
    have hrm := hide_it hroom
    have hle := hide_it hlen
    have hlm := hide_it hl
    have h12 := hide_it (show to ≤ cap by omega)
    clear h hroom hcut hl hrow hnil hrow2 hnil2 hzs hlen
    go_enter Try.func79, Try.ntmps79
    go_wp2_with fail
    refine hfr.mono ?_
    rintro e w1 ⟨⟨r, rfl, hown1⟩, hb1⟩
    have hplt := hH.out.plt
    have hf : w1.frozen? ⟨p, o + 2, none⟩ = false := by rw [hb1.frozen (p := ⟨p, o + 2, none⟩) hplt]; exact f2
    have hc : w1.cell? ⟨p, o + 2, none⟩ = some (.slice a bs.length cap) := by rw [hb1.cell (p := ⟨p, o + 2, none⟩) hplt]; exact c2
    have har : Ar (w1.setCell ⟨p, o + 2, none⟩ r) p o r B zs k := by
      have := hle.out; have := hrm.out; have := hlm.out
      exact hH.out.put2 (hb1.block p hplt) (hown1.mono (Nat.zero_le _)) (fun e => by have := (hown1.inside p e).1; omega) h8 (by omega) (by omega)
    have hmv : Moved w p o (.slice a bs.length cap) B zs k (w1.setCell ⟨p, o + 2, none⟩ r) :=
      ⟨⟨r, har, .inr fun j hj => (hown1.inside j hj).1⟩, (Chg.new hb1).setCell _ _ (fun _ => .inl rfl), (Rest.of_block (hb1.block p hplt)).trans (Rest.set _ _ _ _ _ (by omega))⟩
    obtain ⟨a3, c3, e3, _⟩ := hown1.row
    subst e3
    clear hfr har hown1 hb1
    go_wp2_with fail
    go_end0
    exact ⟨rfl, hmv⟩
  · have hz : zs = bs := by
      have e1 : from_ = 0 := by omega
      have e2 : to = bs.length := by omega
      rw [hzs, e1, e2]; simp
    have hmv : Moved w p o (.slice a bs.length cap) B bs k w := ⟨⟨_, h, .inl rfl⟩, Chg.refl _ _, Rest.refl _ _ _⟩
    rw [← hzs, hz]
    obtain ⟨D, hD⟩ : ∃ D, D = to - from_ := ⟨_, rfl⟩
    rw [← hD] at hw hlt
    have hge : bs.length ≤ D := by omega
    clear h hroom hcut hl hrow hnil hzs hlen hz hD
    go_enter Try.func79, Try.ntmps79
    go_wp2
    go_end0
    exact ⟨rfl, hmv⟩

end Go.Proofs.Ytdodnegdpdhbiaa
