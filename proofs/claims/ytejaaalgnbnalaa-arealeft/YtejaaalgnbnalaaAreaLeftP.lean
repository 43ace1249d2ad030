/- The law on what a loss of power leaves, walked: behind the guards, where bytes are kept. -/
import Derived.Test.YtejaaalgnbnalaaAreaLeftZ
namespace Go.Proofs.Ytejaaalgnbnalaa.areaLeft
open Go.RowKit

set_option maxRecDepth 100000 in
set_option maxHeartbeats 12800000 in
theorem rest_pos {u0 u1 u4 u5 u6 u7 u8 u12 u13 u14 u15 u16 u19 u20 u21 u22 u24 u25 u26 u27 u28 u29 u30 u31 u32 u33 u34 u35 u36 u37 u38 u39 u40 u41 u42 u43 u44 u45 u46 u47 u48 u49 u50 u51 u52 u53 u54 u55 u56 u57 u58 u59 u60 u61 u62 u63 u64 u65 u66 u67 u68 u69 u70 u71 u72 u73 u74 u75 u76 u77 u78 u79 u80 u81 u82 u83 u84 u85 u86 u87 u88 u89 u90 u91 u92 u93 u94 u95 u96 u97 u98 u99 u100 u101 u102 u103 u104 u105 u106 u107 u108 u109 u110 u111 u112 u113 u114 u115 u116 u117 u118 u119 u120 u121 u122 u123 u124 u125 u126 u127 u128 u129 u130 u131 u132 u133 u134 u135 u136 u137 u138 u139 u140 u141 u142 u143 u144 u145 u146 u147 u148 u149 u150 u151 u152 u153 u154 u155 u156 u157 u158 u159 u160 u161 u162 u163 u164 u165 u166 u167 u168 u169 u170 u171 u172 u173 u174 u175 u176 u177 u178 u179 u180 u181 u182 u183 u184 u185 u186 u187 u188 u189 u190 u191 u192 u193 u194 u195 u196 u197 u198 u199 u200 u201 u202 u203 u204 u205 u206 u207 u208 u209 u210 u211 u212 u213 u214 u215 u216 u217 u218 u219 u220 u221 u222 u223 u224 u225 u226 u227 u228 u229 u230 u231 u232 u233 u234 u235 u236 u237 u238 u239 u240 u241 u242 u243 u244 u245 u246 u247 u248 u249 u250 u251 u252 u253 u254 u255 u256 u257 u258 u259 u260 u261 u262 u263 u264 u265 u266 u267 u268 u269 : Value} {w v3 : World} {U1 : Nat → Prop} {p1 p2 g B : Nat} {bs bs2 : List Nat} {k M cc t : Nat} {K : Int} {ra sa ia : Option Addr} {rc sc ic : Nat} (ht : t < 256) (hlen2 : bs2.length = M) (hbs2 : Hid (bs2 = crashB bs k cc t)) (hM : Hid (M = k + cc)) (hkM : M ≤ bs.length)
    (hA3' : Hid (Ab w v3 U1 p1 B bs2 M p2 B bs k)) (hS3' : Hid (Sl v3 U1 (.slice ra bs.length rc) bs)) (hR3' : Hid (Sl v3 U1 (.slice sa M sc) bs2)) (hP3' : Hid (Spn v3 U1 g (B : Int) (.slice ia k ic))) (hI3 : Hid (Sl v3 U1 (.slice ia k ic) (bs.take k))) (h1 : 0 < cc) :
    Code.wp Try.prog rest (bodyPost Try.prog Try.f3 fun e w' => e = .returned (.bool true) ∧ Below w.heap.size w w') ⟨#[u0, u1, .int .i64 K, .int .u8 (t : Int), u4, u5, u6, u7, u8, .pointer (some ⟨p1, 0, none⟩), .pointer (some ⟨p2, 0, none⟩), .slice ra bs.length rc, u12, u13, u14, u15, u16, .pointer (some ⟨g, 0, none⟩), .slice sa M sc, u19, u20, u21, u22, .int .i64 (cc : Int), u24, u25, u26, u27, u28, u29, u30, u31, u32, u33, u34, u35, u36, u37, u38, u39, u40, u41, u42, u43, u44, u45, u46, u47, u48, u49, u50, u51, u52, u53, u54, u55, u56, u57, u58, u59, u60, u61, u62, u63, u64, u65, u66, u67, u68, u69, u70, u71, u72, u73, u74, u75, u76, u77, u78, u79, u80, u81, u82, u83, u84, u85, u86, u87, u88, u89, u90, u91, u92, u93, u94, u95, u96, u97, u98, u99, u100, u101, u102, u103, u104, u105, u106, u107, u108, u109, u110, u111, u112, u113, u114, u115, u116, u117, u118, u119, u120, u121, u122, u123, u124, u125, u126, u127, u128, u129, u130, u131, u132, u133, u134, u135, u136, u137, u138, u139, u140, u141, u142, u143, u144, u145, u146, u147, u148, u149, u150, u151, u152, u153, u154, u155, u156, u157, u158, u159, u160, u161, u162, u163, u164, u165, u166, u167, u168, u169, u170, u171, u172, u173, u174, u175, u176, u177, u178, u179, u180, u181, u182, u183, u184, u185, u186, u187, u188, u189, u190, u191, u192, u193, u194, u195, u196, u197, u198, u199, u200, u201, u202, u203, u204, u205, u206, u207, u208, u209, u210, u211, u212, u213, u214, u215, u216, u217, u218, u219, u220, u221, u222, u223, u224, u225, u226, u227, u228, u229, u230, u231, u232, u233, u234, u235, u236, u237, u238, u239, u240, u241, u242, u243, u244, u245, u246, u247, u248, u249, u250, u251, u252, u253, u254, u255, u256, u257, u258, u259, u260, u261, u262, u263, u264, u265, u266, u267, u268, u269], []⟩ v3 := by
  conv => arg 2; whnf
  have hkk : k ≤ bs.length := hA3'.out.swap.room.2.2.2
  have hkl : (bs.take k).length = k := by simp; omega
  have hwl := hide_it (show B + bs.length ≤ 9223372036854775807 ∧ bs.length ≤ 211106232532800 from ⟨hA3'.out.swap.room.2.1, hA3'.out.swap.room.1⟩)
  have q4 : RowB v3 ra bs := by
    obtain ⟨q1, q2, q3, q4, _⟩ := hS3'.out.row
    cases q3; exact q4
  have j4 : RowB v3 sa bs2 := by
    obtain ⟨q1, q2, q3, q4, _⟩ := hR3'.out.row
    rw [hlen2] at q3
    cases q3; exact q4
  have q6 := 0
  have j6 := 0
  go_wp2_with fail
  have heq : ∀ m, m < M → m ≠ M - 1 → at0 bs2 m = at0 bs m := fun m hm hne => by
    have h9 := hM.out
    rw [hbs2.out, at_crash (by omega) (by omega), if_neg (by omega)]
  have heq2 : ∀ m, m < M → m = M - 1 → at0 bs2 m = at0 bs m ^^^ t := fun m hm hne => by
    have h9 := hM.out
    rw [hbs2.out, at_crash (by omega) (by omega), if_pos (by omega)]
  replace heq := hide_it heq
  replace heq2 := hide_it heq2
  have hwm : IntKind.i64.wrap ((M : Int) - 1) = ((M - 1 : Nat) : Int) := by have := hM.out; have := hwl.out; rw [IntKind.wrap_i64]; omega
  obtain ⟨M1, hM1⟩ : ∃ M1, M1 = M - 1 := ⟨_, rfl⟩
  rw [← hM1] at hwm
  replace hM1 := hide_it hM1
  have h8 := hide_it hA3'.out.room.2.2.1
  have h88 := hide_it hA3'.out.swap.room.2.2.1
  go_loopw [24, 25] (fun i _ wr => ∃ m : Nat, m ≤ M ∧ i = .int .i64 (m : Int) ∧ wr = v3) (fun i _ _ => M - (intOf i).toNat)
  case atStart => exact ⟨0, by omega, rfl, rfl⟩
  case round =>
    obtain ⟨m, hm, rfl, hwr⟩ := hrel
    subst hwr
    by_cases hlt : m < M
    · have hmb : m < bs.length := by omega
      obtain ⟨ba, oa, hra, _, hca⟩ := q4.here hmb
      obtain ⟨bb, ob, hrb, _, hcb⟩ := j4.here (i := m) (by rw [hlen2]; exact hlt)
      have z1 := hca m hmb
      have z2 := hcb m (by rw [hlen2]; exact hlt)
      have hml : m < 1000000000000000 := by have := hA3'.out.room.1; omega
      have hx8 : at0 bs m < 256 := h88.out _ (at0_mem hmb)
      subst hra
      subst hrb
      by_cases hme : m = M1
      · rw [heq2.out m hlt (by rw [hme]; exact hM1.out)] at z2
        have hx := u8_xor_nat _ t hx8 ht
        have hde : ((m : Int) == (M1 : Int)) = true := by rw [hme]; simp
        obtain ⟨X, hX⟩ : ∃ X, X = at0 bs m := ⟨_, rfl⟩
        rw [← hX] at z1 z2 hx
        replace hme := hide_it hme
        clear hca hcb hX
        go_wp2_with fail
        go_roundw
        case rel => exact ⟨m + 1, by omega, by go_num, by first | rfl | trivial⟩
        case measure => simp [intOf]; omega
      · rw [heq.out m hlt (by rw [← hM1.out]; exact hme)] at z2
        have hde : ((m : Int) == (M1 : Int)) = false := by simp; omega
        clear hca hcb
        go_wp2_with fail
        go_roundw
        case rel => exact ⟨m + 1, by omega, by go_num, by first | rfl | trivial⟩
        case measure => simp [intOf]; omega
    · have hmn : m = M := by omega
      subst hmn
      have hcr := hA3'.out.crash K t ht 0 (by rw [hlen2, Nat.sub_self, Nat.min_zero])
      rw [crash_still hlen2, Nat.add_zero] at hcr
      clear q4 q6 j4 j6
      go_wp2_with fail
      refine hcr.mono ?_
      rintro e v4 ⟨rfl, hA4, hc4⟩
      have hS4 := hide_it (hS3'.out.chg hc4)
      have hR4 := hide_it (hR3'.out.chg hc4)
      have hP4 := hide_it (hP3'.out.chg hc4)
      have hI4 := hide_it (hI3.out.chg hc4)
      have hcr2 := hA4.crash 0 255 (by omega) 0 (by simp)
      rw [crash_still hlen2, Nat.add_zero] at hcr2
      clear hcr hc4 hS3' hR3' hP3' hI3 hA3'
      go_wp2_with fail
      refine hcr2.mono ?_
      rintro e v5 ⟨rfl, hA5, hc5⟩
      have hR5 := hide_it (hR4.out.chg hc5)
      have hP5 := hide_it (hP4.out.chg hc5)
      have hI5 := hide_it (hI4.out.chg hc5)
      have hwh := hA5.whole
      clear hcr2 hc5 hS4 hR4 hP4 hI4 hA4
      go_wp2_with fail
      refine hwh.mono ?_
      rintro e v6 ⟨⟨r4, rfl, hr4⟩, hb6⟩
      have hQ6 := Sl.new hr4 hA5.lt
      obtain ⟨ta, tc, e4, _⟩ := hQ6.row
      rw [hlen2] at e4
      subst e4
      have hA6 := hA5.below hb6
      have hR6 := hR5.out.below hb6
      have hP6 := hP5.out.below hb6
      have hI6 := hI5.out.below hb6
      have hcr3 := hA6.swap.crash 0 t ht 0 (by simp)
      rw [crash_none, Nat.add_zero] at hcr3
      replace hQ6 := hide_it hQ6
      replace hR6 := hide_it hR6
      replace hP6 := hide_it hP6
      replace hI6 := hide_it hI6
      clear hwh hr4 hA5 hR5 hP5 hI5
      go_wp2_with fail
      refine hcr3.mono ?_
      rintro e v7 ⟨rfl, hA7, hc7⟩
      have hQ7 := hQ6.out.chg hc7
      have hR7 := hR6.out.chg hc7
      have hP7 := hP6.out.chg hc7
      have hI7 := hI6.out.chg hc7
      obtain ⟨q1, q2, q3, q4, _, q6⟩ := hQ7.row
      rw [hlen2] at q3
      cases q3
      obtain ⟨j1, j2, j3, j4, _, j6⟩ := hR7.row
      rw [hlen2] at j3
      cases j3
      have hsm := same_any ta sa tc sc bs2 m hlen2 v7 q4 j4 q6 j6
      obtain ⟨g0, g1⟩ := hP7.cells
      have hbe7 := hA7.bel
      obtain ⟨i1, i2, i3, i4, _, i6⟩ := hI7.row
      rw [hkl] at i3
      cases i3
      have h8k : All8 (bs.take k) := hA7.room.2.2.1
      have hlk := hA7.room.1
      have hA7' := hide_it hA7
      clear hcr3 hc7 hQ6 hR6 hP6 hI6 hQ7 hR7 hA6 q4 q6 j4 j6 hA7 hb6
      go_wp2_with fail
      refine hsm.mono ?_
      rintro e y7 ⟨rfl, hq7⟩
      obtain rfl := hq7
      clear hsm
      by_cases hbig : 4611686018427387904 < (B : Int)
      · have hdb : decide (4611686018427387904 < (B : Int)) = true := by simpa using hbig
        obtain ⟨Bi, hBi⟩ : ∃ Bi : Int, Bi = (B : Int) := ⟨_, rfl⟩
        rw [← hBi] at g0 hdb
        clear hBi hbig
        go_wp2_with fail
        go_ret
        exact ⟨rfl, hbe7⟩
      · have hdb : decide (4611686018427387904 < (B : Int)) = false := by simpa using hbig
        have hlo := load_ok y7 B (by omega) ia ic (bs.take k) i4 h8k hlk i6
        rw [hkl] at hlo
        obtain ⟨Bi, hBi⟩ : ∃ Bi : Int, Bi = (B : Int) := ⟨_, rfl⟩
        rw [← hBi] at g0 hdb hlo
        replace hBi := hide_it hBi
        clear hbig i4
        go_wp2_with fail
        refine hlo.mono ?_
        rintro e v8 ⟨⟨q, vv, rfl, hAr, hql, hvl⟩, hb8⟩
        have hFa : Fa v8 (fun j => y7.heap.size ≤ j ∧ j < v8.heap.size) q B (bs.take k) k := ⟨⟨vv, by rw [hkl] at hAr; exact hAr, fun j hj => ⟨by
          rcases hj with rfl | hj
          · exact hql
          · exact hvl j hj, hAr.inside j hj⟩⟩, fun j hj => hj.2, by omega⟩
        have hwh := whole_any hFa
        have hA8 := hide_it (hA7'.out.below hb8)
        clear hlo hFa hAr g0 g1
        go_wp2_with fail
        refine hwh.mono ?_
        rintro e v9 ⟨⟨r5, rfl, hr5⟩, hb9⟩
        have hwh2 := (hA8.out.below hb9).whole
        obtain ⟨n1, n2, rfl, hn3, _, _, hn4⟩ := hr5.row
        rw [hkl]
        clear hwh hr5
        go_wp2_with fail
        refine hwh2.mono ?_
        rintro e v10 ⟨⟨r6, rfl, hr6⟩, hb10⟩
        obtain ⟨o1, o2, rfl, ho3, _, _, ho4⟩ := hr6.row
        rw [hkl]
        have hsm := same_any n1 o1 n2 o2 (bs.take k) k hkl v10 (hn3.below hb10) ho3 hn4 ho4
        have hbe := ((hA8.out.below hb9).below hb10).bel
        clear hwh2 hr6 hA8 hA7'
        go_wp2_with fail
        refine hsm.mono ?_
        rintro e v11 ⟨rfl, hq11⟩
        obtain rfl := hq11
        clear hsm
        go_wp2_with fail
        go_ret
        exact ⟨rfl, hbe⟩

end Go.Proofs.Ytejaaalgnbnalaa.areaLeft
