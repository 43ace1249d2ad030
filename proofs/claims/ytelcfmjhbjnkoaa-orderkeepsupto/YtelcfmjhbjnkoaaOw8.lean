/- A list of items laid down by the program. -/
import Derived.Test.YtelcfmjhbjnkoaaOw7
namespace Go.Proofs.Ytelcfmjhbjnkoaa
open Go.RowKit

attribute [local go_sem] st_float st_complex

/-- An item that lies in memory. -/
structure ItAt (w : World) (b o : Nat) (x : It) : Prop where
  c0 : w.cell? ⟨b, o, none⟩ = some (.int .i64 x.k)
  c1 : w.cell? ⟨b, o + 1, none⟩ = some (.bool x.b)
  c2 : w.cell? ⟨b, o + 2, none⟩ = some (.int .i64 x.n)
  c3 : w.cell? ⟨b, o + 3, none⟩ = some (.float .f64 x.f)
  c4 : w.cell? ⟨b, o + 4, none⟩ = some (.complex .f64 x.r x.i)
  c5 : w.cell? ⟨b, o + 5, none⟩ = some (.string x.t)
theorem ItAt.below {w w' : World} {b o : Nat} {x : It} {B : Nat} (h : ItAt w b o x) (hb : Below B w w') (hlt : b < B) : ItAt w' b o x :=
  ⟨by rw [hb.cell (p := ⟨b, o, none⟩) hlt]; exact h.c0, by rw [hb.cell (p := ⟨b, o + 1, none⟩) hlt]; exact h.c1, by rw [hb.cell (p := ⟨b, o + 2, none⟩) hlt]; exact h.c2,
    by rw [hb.cell (p := ⟨b, o + 3, none⟩) hlt]; exact h.c3, by rw [hb.cell (p := ⟨b, o + 4, none⟩) hlt]; exact h.c4, by rw [hb.cell (p := ⟨b, o + 5, none⟩) hlt]; exact h.c5⟩
/-- A row of items. -/
def RowI (w : World) (a : Option Addr) (xs : List It) : Prop :=
  xs.length = 0 ∨ ∃ b o, a = some ⟨b, o, none⟩ ∧ b < w.heap.size ∧ ∀ i (h : i < xs.length), ItAt w b (o + i * 6) xs[i]
theorem RowI.here {w : World} {a : Option Addr} {xs : List It} (h : RowI w a xs) {i : Nat} (hi : i < xs.length) :
    ∃ b o, a = some ⟨b, o, none⟩ ∧ b < w.heap.size ∧ ItAt w b (o + i * 6) xs[i] := by
  rcases h with h | ⟨b, o, e, hlt, hc⟩
  · omega
  · exact ⟨b, o, e, hlt, hc i hi⟩
theorem RowI.below {w w' : World} {a : Option Addr} {xs : List It} (h : RowI w a xs) (hb : Below w.heap.size w w') : RowI w' a xs := by
  rcases h with h | ⟨b, o, e, hlt, hc⟩
  · exact .inl h
  · exact .inr ⟨b, o, e, Nat.lt_of_lt_of_le hlt hb.size, fun i hi => (hc i hi).below hb hlt⟩

/-- What is known of a list of items. -/
def AllOk (xs : List It) : Prop := ∀ x ∈ xs, ItOk x ∧ x.t.size ≤ 1073741824
theorem enc_len {x : It} : (encI x).length ≤ 2 * x.t.size + 19 := by
  unfold encI body
  have h := esc_len (strNat x.t)
  rw [strNat_len] at h
  rw [List.length_cons]
  repeat' split
  all_goals simp [beP_len]
  all_goals omega
theorem encAll_len {xs : List It} (h : AllOk xs) : (encAll xs).length ≤ xs.length * 2147483667 := by
  induction xs with
  | nil => simp [encAll]
  | cons x xs ih =>
    have h1 := (h x List.mem_cons_self).2
    have h2 := ih (fun y hy => h y (List.mem_cons_of_mem _ hy))
    have h3 := enc_len (x := x)
    rw [encAll_cons, List.length_append, List.length_cons]
    omega
theorem encAll_snoc (xs : List It) (x : It) : encAll (xs ++ [x]) = encAll xs ++ encI x := by simp [encAll]
theorem takeI_snoc {xs : List It} {k : Nat} (hk : k < xs.length) : xs.take (k + 1) = xs.take k ++ [xs[k]] := List.take_succ_eq_append_getElem hk

/-- What Encode answers. -/
def encRes (xs : List It) : List Nat × Int := if 64 < xs.length then ([], 3) else if xs.all may then (encAll xs, 0) else ([], 40)

set_option maxRecDepth 100000 in
set_option maxHeartbeats 1000000 in
theorem encode_any (a : Option Addr) (cap : Nat) (xs : List It) (w : World) (hr : RowI w a xs) (hok : AllOk xs) (hlm : xs.length ≤ 140737488355328) :
    Calls Try.prog 7 #[.slice a xs.length cap] w fun e w' => e = .returned (.tuple #[.string (strOf (encRes xs).1), .int .i64 (encRes xs).2]) ∧ Below w.heap.size w w' := by
  by_cases hlong : 64 < xs.length
  · have e : encRes xs = ([], 3) := by unfold encRes; rw [if_pos hlong]
    rw [e]
    have hd : decide ((64 : Int) < (xs.length : Int)) = true := by simp; omega
    clear hr
    go_enter Try.func7, Try.ntmps7
    go_wp2_with fail
    go_ret2
    exact ⟨rfl, Below.refl _ _⟩
  · have hd : decide ((64 : Int) < (xs.length : Int)) = false := by simp; omega
    obtain ⟨res, hres⟩ : ∃ z, z = encRes xs := ⟨_, rfl⟩
    rw [← hres]
    unfold encRes at hres
    rw [if_neg hlong] at hres
    have HR := hide_it hres
    have HX := hide_it hr
    clear hres hr
    go_enter Try.func7, Try.ntmps7
    go_wp2_with fail
    go_loopw [4, 12] (fun r i wr => ∃ k : Nat, k ≤ xs.length ∧ i = .int .i64 (k : Int) ∧ Below w.heap.size w wr ∧ OwnB wr w.heap.size r (encAll (xs.take k)) ∧ Hid ((xs.take k).all may = true)) (fun _ i _ => xs.length - (intOf i).toNat)
    case atStart => exact ⟨0, by omega, rfl, Below.refl _ _, World.ownsRow_nil _ _ _ _, by simp [Hid]⟩
    case round =>
      obtain ⟨k, hk, rfl, hbl, how, hall⟩ := hrel
      have hbs := hbl.size
      by_cases hlt : k < xs.length
      · obtain ⟨bb, oo, rfl, hbb, hat⟩ := HX.out.here hlt
        have hat2 := hat.below hbl hbb
        have hxk := hok xs[k] (List.getElem_mem hlt)
        have hsn := takeI_snoc hlt
        have hel := encAll_len (xs := xs.take k) (fun x hx => hok x (List.mem_of_mem_take hx))
        have htk : (xs.take k).length ≤ 63 := by simp; omega
        obtain ⟨x, hx⟩ : ∃ x, x = xs[k] := ⟨_, rfl⟩
        rw [← hx] at hat2 hxk hsn
        have HSN := hide_it hsn
        have HXM : Hid (x ∈ xs) := by rw [hx]; exact List.getElem_mem hlt
        clear hx hat hsn
        obtain ⟨c0, c1, c2, c3, c4, c5⟩ := hat2
        have hd1 : decide ((k : Int) < (xs.length : Int)) = true := by simp; omega
        have hm := fun w => mayBe_any x w hxk.1
        have B0 := BoxI.new wr x
        have hbw : Below wr.heap.size wr (wr.alloc (.cells #[.int .i64 x.k, .bool x.b, .int .i64 x.n, .float .f64 x.f, .complex .f64 x.r x.i, .string x.t] 29)) := (Below.refl _ _).alloc (Nat.le_refl _) _
        have hkl : (k : Int) < 65 := by omega
        cases hmx : may x with
        | false =>
          rw [hmx] at hm
          go_wp2_with fail
          refine (hm _).mono ?_
          rintro e w1 ⟨rfl, hb1⟩
          have hb2 := hbl.trans (hbw.mono hbs)
          have hb3 := hb2.trans (hb1.mono hb2.size)
          clear hm B0 hbw hb1 hb2 c0 c1 c2 c3 c4 c5
          go_wp2_with fail
          go_ret2
          have hno : xs.all may = false := by
            cases hv : xs.all may with
            | false => rfl
            | true => rw [List.all_eq_true.1 hv x HXM.out] at hmx; cases hmx
          refine ⟨?_, hb3⟩
          rw [HR.out, hno]
          rfl
        | true =>
          rw [hmx] at hm
          go_wp2_with fail
          refine (hm _).mono ?_
          rintro e w1 ⟨rfl, hb1⟩
          have hb2 := hbl.trans (hbw.mono hbs)
          have hb3 := hb2.trans (hb1.mono hb2.size)
          have how1 := (how.below hbw).below hb1
          obtain ⟨d0, d1, d2, d3, d4, d5⟩ := (B0.below hb1 (by simp)).cells
          clear hm B0 hbw hb1 hb2 c0 c1 c2 c3 c4 c5 how
          go_wp2_with fail
          refine (appendItem_any _ x w.heap.size _ _ hxk.1 hmx how1 hb3.size (by omega)).mono ?_
          rintro e w2 ⟨r2, rfl, A2⟩
          have hb4 := hb3.trans (A2.below how1 hb3.size)
          clear d0 d1 d2 d3 d4 d5
          go_wp2_with fail
          go_roundw
          case rel =>
            refine ⟨k + 1, by omega, by go_num, hb4, ?_, ?_⟩
            · rw [HSN.out, encAll_snoc]; exact A2.own
            · unfold Hid
              rw [HSN.out, List.all_append, hall.out]
              simp [hmx]
          case measure => simp [intOf]; omega
      · have hd1 : decide ((k : Int) < (xs.length : Int)) = false := by simp; omega
        have htk : xs.take k = xs := List.take_of_length_le (by omega)
        rw [htk] at how hall
        obtain ⟨p1, q1, rfl, hp1, _, _, hn1⟩ := how.row
        have hcv := conv_row hp1 hn1
        go_wp2_with fail
        go_ret2
        refine ⟨?_, hbl⟩
        rw [HR.out, hall.out]
        rfl

end Go.Proofs.Ytelcfmjhbjnkoaa
