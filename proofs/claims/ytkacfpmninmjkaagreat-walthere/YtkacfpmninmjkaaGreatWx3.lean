/- What Write and Group do where all may be and the power is there. -/
import Derived.Test.YtkacfpmninmjkaaGreatWx2
namespace Go.Proofs.YtkacfpmninmjkaaGreat
open Go.RowKit

theorem wr_ok {es : List En} (h : ∀ x ∈ es, OkE x) (x : Pt) : wrX false x es = (0, { x with bs := x.bs ++ bysE es, c := x.c + es.length }) := by
  induction es generalizing x with
  | nil => simp [wrX, bysE]
  | cons e t ih =>
    unfold wrX
    rw [if_pos (h e (by simp)).1, if_neg (by simp [down]), ih (fun y hy => h y (by simp [hy]))]
    simp only [bysE, List.append_assoc, List.length_cons]
    congr 2
    omega
theorem gr_ok {es : List En} (h : ∀ x ∈ es, OkE x) (x : Pt) : grX false x es = (0, { x with bs := x.bs ++ bysE es, k := (x.bs ++ bysE es).length, c := x.c + es.length + 1 }) := by
  have hall : es.all mayE = true := List.all_eq_true.2 fun e he => (h e he).1
  unfold grX
  rw [if_pos hall, wr_ok h, if_pos rfl]
  rfl


/-- Open, of a disk of one's own. -/
theorem opened {w0 w : World} {F : Nat → Prop} {p : Nat} {am : Bool} {s : Nat → Pt} {x : Pt} (hb : Below w0.heap.size w0 w) (hd : Dsk w F p am 1 s) (hs : s 0 = x) (hF : ∀ b, F b → w0.heap.size ≤ b) :
    Calls Tryz.prog 11 #[.pointer (some ⟨p, 0, none⟩), .int .i64 0] w fun e w' => ∃ L, e = .returned (.tuple #[.pointer (some ⟨L, 0, none⟩), .int .i64 0]) ∧ Nl w0 w' F L p am x ∧ w.heap.size ≤ L ∧ Below w.heap.size w w' := by
  have hlt := hd.lt
  have h1 := hb.size
  exact (open_log hd (i := 0) (by omega)).mono fun e w' ⟨L, he, hL, hlg, hb2⟩ => ⟨L, he, ⟨⟨s, hs, hd.below hb2⟩, hlg, fun hx => by have := hlt _ hx; omega, hF, by omega, hb.trans (hb2.mono h1)⟩, hL, hb2⟩
theorem Ets.any {w : World} {F : Nat → Prop} {a : Option Addr} {xs : List Ent} (h : Ets w F a xs) : Ets w (fun _ => False) a xs := h.mono fun _ e => e.elim

end Go.Proofs.YtkacfpmninmjkaaGreat
