import Derived.Test.YtbdjnkndjimlcaaLawB
namespace Go.Proofs.Ytbdjnkndjimlcaa
open Go.RowKit
set_option maxRecDepth 100000 in
set_option maxHeartbeats 4000000 in
theorem ring_walk (a0 a1 a2 : Option Addr) (len0 cap0 len1 cap1 len2 cap2 : Nat) (ps qs rs : List Nat) (x0 : Int) (w : World) (r0 : RowB w a0 len0 cap0 ps) (r1 : RowB w a1 len1 cap1 qs) (r2 : RowB w a2 len2 cap2 rs) (wx : (Lit.int .u8 x0).wf = true) :
    Calls Try.prog 7 #[.slice a0 len0 cap0, .slice a1 len1 cap1, .slice a2 len2 cap2, .int .u8 x0] w fun e w' => e = .returned (.bool true) ∧ Below w.heap.size w w' := by
  obtain ⟨x, xb, rfl⟩ := nat_u8 wx
  have hp := hidIt (row_lt r0)
  have hq := hidIt (row_lt r1)
  have hr := hidIt (row_lt r2)
  have n0 := hidIt r0.len
  have n1 := hidIt r1.len
  have n2 := hidIt r2.len
  have b0 := hidIt r0.bytes
  have b1 := hidIt r1.bytes
  have b2 := hidIt r2.bytes
  clear r0 r1 r2 wx
  obtain ⟨ea, hea⟩ : ∃ g, Hid (Pl.hor x ps = g) := ⟨_, rfl⟩
  obtain ⟨eb, heb⟩ : ∃ g, Hid (Pl.hor x qs = g) := ⟨_, rfl⟩
  have ab : ea < 256 := by rw [← hea.out]; exact Pl.hor_lt ps (ok_of hp.out)
  have bb : eb < 256 := by rw [← heb.out]; exact Pl.hor_lt qs (ok_of hq.out)
  go_enter Try.func7, Try.ntmps7
  go_wp2_with (fail)
  refine (awake6_any _).mono ?_
  rintro e w1 ⟨rfl, be1⟩
  replace be1 := hidIt be1
  go_wp2_with (fail)
  by_cases hmany : 30 < len0 ∨ 30 < len1 ∨ 30 < len2
  · refine (many3_any w1 a0 a1 a2 len0 cap0 len1 cap1 len2 cap2 _ true (decide_eq_true hmany)).mono ?_
    rintro e w2 ⟨rfl, be2⟩
    replace be2 := hidIt (then_below be1.out be2)
    clear hmany
    go_wp2_with (fail)
    go_ret
    exact ⟨rfl, be2.out⟩
  · refine (many3_any w1 a0 a1 a2 len0 cap0 len1 cap1 len2 cap2 _ false (decide_eq_false hmany)).mono ?_
    rintro e w2 ⟨rfl, hbel⟩
    have be2 := hidIt (then_below be1.out hbel)
    have z0 : Hid (ps.length ≤ 30) := by have := n0.out; show _ ≤ _; omega
    have z1 : Hid (qs.length ≤ 30) := by have := n1.out; show _ ≤ _; omega
    have z2 : Hid (rs.length ≤ 30) := by have := n2.out; show _ ≤ _; omega
    clear hmany hbel be1
    go_wp2_with (fail)
    refine (lawmul_any _ _ len1 len2 _ _ (qs) (rs) n1.out n2.out hq.out hr.out (by have := n1.out; have := z1.out; omega) (by have := n2.out; have := z2.out; omega) _ (b1.out.below be2.out) (b2.out.below be2.out)).mono ?_
    rintro e w3 ⟨⟨a3, m3, c3, rfl, hm, hb⟩, hbel⟩
    have hm3 := hidIt hm
    have z3 : Hid ((timesT (qs) (rs)).length ≤ 60) := timesT_le z1.out z2.out
    have hb3 := hidIt hb
    clear hm hb
    have be3 := hidIt (then_below be2.out hbel)
    clear hbel be2
    go_wp2_with (fail)
    refine (lawmul_any _ _ len0 m3 _ _ (ps) (timesT (qs) (rs)) n0.out hm3.out hp.out (timesT_lt hq.out) (by have := n0.out; have := z0.out; omega) (by have := hm3.out; have := z3.out; omega) _ (b0.out.below be3.out) hb3.out).mono ?_
    rintro e w4 ⟨⟨a4, m4, c4, rfl, hm, hb⟩, hbel⟩
    have hm4 := hidIt hm
    have z4 : Hid ((timesT (ps) (timesT (qs) (rs))).length ≤ 90) := timesT_le z0.out z3.out
    have hb4 := hidIt hb
    clear hm hb
    have be4 := hidIt (then_below be3.out hbel)
    clear hbel be3 hb3
    go_wp2_with (fail)
    refine (lawmul_any _ _ len0 len1 _ _ (ps) (qs) n0.out n1.out hp.out hq.out (by have := n0.out; have := z0.out; omega) (by have := n1.out; have := z1.out; omega) _ (b0.out.below be4.out) (b1.out.below be4.out)).mono ?_
    rintro e w5 ⟨⟨a5, m5, c5, rfl, hm, hb⟩, hbel⟩
    have hm5 := hidIt hm
    have z5 : Hid ((timesT (ps) (qs)).length ≤ 60) := timesT_le z0.out z1.out
    have hb5 := hidIt hb
    clear hm hb
    have y2_5 := hidIt (hb4.out.below hbel)
    have be5 := hidIt (then_below be4.out hbel)
    clear hbel be4 hb4
    go_wp2_with (fail)
    refine (lawmul_any _ _ m5 len2 _ _ (timesT (ps) (qs)) (rs) hm5.out n2.out (timesT_lt hp.out) hr.out (by have := hm5.out; have := z5.out; omega) (by have := n2.out; have := z2.out; omega) _ hb5.out (b2.out.below be5.out)).mono ?_
    rintro e w6 ⟨⟨a6, m6, c6, rfl, hm, hb⟩, hbel⟩
    have hm6 := hidIt hm
    have z6 : Hid ((timesT (timesT (ps) (qs)) (rs)).length ≤ 90) := timesT_le z5.out z2.out
    have hb6 := hidIt hb
    clear hm hb
    have y2_6 := hidIt (y2_5.out.below hbel)
    have be6 := hidIt (then_below be5.out hbel)
    clear hbel be5 y2_5 hb5
    go_wp2_with (fail)
    refine (same6b _ _ m4 m6 _ _ (timesT (ps) (timesT (qs) (rs))) (timesT (timesT (ps) (qs)) (rs)) true hm4.out hm6.out (timesT_lt hp.out) (timesT_lt (timesT_lt hp.out)) (decide_eq_true (ring_assoc hp.out hq.out hr.out)) _ y2_6.out hb6.out).mono ?_
    rintro e w7 ⟨rfl, hbel⟩
    have be7 := hidIt (then_below be6.out hbel)
    clear hbel be6 y2_6 hb6
    go_wp2_with (fail)
    refine (lawmul_any _ _ len0 len1 _ _ (ps) (qs) n0.out n1.out hp.out hq.out (by have := n0.out; have := z0.out; omega) (by have := n1.out; have := z1.out; omega) _ (b0.out.below be7.out) (b1.out.below be7.out)).mono ?_
    rintro e w8 ⟨⟨a8, m8, c8, rfl, hm, hb⟩, hbel⟩
    have hm8 := hidIt hm
    have z8 : Hid ((timesT (ps) (qs)).length ≤ 60) := timesT_le z0.out z1.out
    have hb8 := hidIt hb
    clear hm hb
    have be8 := hidIt (then_below be7.out hbel)
    clear hbel be7
    go_wp2_with (fail)
    refine (lawmul_any _ _ len1 len0 _ _ (qs) (ps) n1.out n0.out hq.out hp.out (by have := n1.out; have := z1.out; omega) (by have := n0.out; have := z0.out; omega) _ (b1.out.below be8.out) (b0.out.below be8.out)).mono ?_
    rintro e w9 ⟨⟨a9, m9, c9, rfl, hm, hb⟩, hbel⟩
    have hm9 := hidIt hm
    have z9 : Hid ((timesT (qs) (ps)).length ≤ 60) := timesT_le z1.out z0.out
    have hb9 := hidIt hb
    clear hm hb
    have y5_9 := hidIt (hb8.out.below hbel)
    have be9 := hidIt (then_below be8.out hbel)
    clear hbel be8 hb8
    go_wp2_with (fail)
    refine (same6b _ _ m8 m9 _ _ (timesT (ps) (qs)) (timesT (qs) (ps)) true hm8.out hm9.out (timesT_lt hp.out) (timesT_lt hq.out) (decide_eq_true (ring_comm hp.out hq.out)) _ y5_9.out hb9.out).mono ?_
    rintro e w10 ⟨rfl, hbel⟩
    have be10 := hidIt (then_below be9.out hbel)
    clear hbel be9 y5_9 hb9
    go_wp2_with (fail)
    refine (addR_any _ _ len1 len2 _ _ (qs) (rs) n1.out n2.out hq.out hr.out (by have := n1.out; have := z1.out; omega) (by have := n2.out; have := z2.out; omega) _ (b1.out.below be10.out) (b2.out.below be10.out)).mono ?_
    rintro e w11 ⟨⟨a11, m11, c11, rfl, hm, hb⟩, hbel⟩
    have hm11 := hidIt hm
    have z11 : Hid ((Pl.trim (plus (qs) (rs))).length ≤ 60) := plus_le z1.out z2.out
    have hb11 := hidIt hb
    clear hm hb
    have be11 := hidIt (then_below be10.out hbel)
    clear hbel be10
    go_wp2_with (fail)
    refine (lawmul_any _ _ len0 m11 _ _ (ps) (Pl.trim (plus (qs) (rs))) n0.out hm11.out hp.out (co_trim_lt (plus_lt hq.out hr.out)) (by have := n0.out; have := z0.out; omega) (by have := hm11.out; have := z11.out; omega) _ (b0.out.below be11.out) hb11.out).mono ?_
    rintro e w12 ⟨⟨a12, m12, c12, rfl, hm, hb⟩, hbel⟩
    have hm12 := hidIt hm
    have z12 : Hid ((timesT (ps) (Pl.trim (plus (qs) (rs)))).length ≤ 90) := timesT_le z0.out z11.out
    have hb12 := hidIt hb
    clear hm hb
    have be12 := hidIt (then_below be11.out hbel)
    clear hbel be11 hb11
    go_wp2_with (fail)
    refine (lawmul_any _ _ len0 len1 _ _ (ps) (qs) n0.out n1.out hp.out hq.out (by have := n0.out; have := z0.out; omega) (by have := n1.out; have := z1.out; omega) _ (b0.out.below be12.out) (b1.out.below be12.out)).mono ?_
    rintro e w13 ⟨⟨a13, m13, c13, rfl, hm, hb⟩, hbel⟩
    have hm13 := hidIt hm
    have z13 : Hid ((timesT (ps) (qs)).length ≤ 60) := timesT_le z0.out z1.out
    have hb13 := hidIt hb
    clear hm hb
    have y8_13 := hidIt (hb12.out.below hbel)
    have be13 := hidIt (then_below be12.out hbel)
    clear hbel be12 hb12
    go_wp2_with (fail)
    refine (lawmul_any _ _ len0 len2 _ _ (ps) (rs) n0.out n2.out hp.out hr.out (by have := n0.out; have := z0.out; omega) (by have := n2.out; have := z2.out; omega) _ (b0.out.below be13.out) (b2.out.below be13.out)).mono ?_
    rintro e w14 ⟨⟨a14, m14, c14, rfl, hm, hb⟩, hbel⟩
    have hm14 := hidIt hm
    have z14 : Hid ((timesT (ps) (rs)).length ≤ 60) := timesT_le z0.out z2.out
    have hb14 := hidIt hb
    clear hm hb
    have y8_14 := hidIt (y8_13.out.below hbel)
    have y9_14 := hidIt (hb13.out.below hbel)
    have be14 := hidIt (then_below be13.out hbel)
    clear hbel be13 y8_13 hb13
    go_wp2_with (fail)
    refine (addR_any _ _ m13 m14 _ _ (timesT (ps) (qs)) (timesT (ps) (rs)) hm13.out hm14.out (timesT_lt hp.out) (timesT_lt hp.out) (by have := hm13.out; have := z13.out; omega) (by have := hm14.out; have := z14.out; omega) _ y9_14.out hb14.out).mono ?_
    rintro e w15 ⟨⟨a15, m15, c15, rfl, hm, hb⟩, hbel⟩
    have hm15 := hidIt hm
    have z15 : Hid ((Pl.trim (plus (timesT (ps) (qs)) (timesT (ps) (rs)))).length ≤ 120) := plus_le z13.out z14.out
    have hb15 := hidIt hb
    clear hm hb
    have y8_15 := hidIt (y8_14.out.below hbel)
    have be15 := hidIt (then_below be14.out hbel)
    clear hbel be14 y8_14 y9_14 hb14
    go_wp2_with (fail)
    refine (same6b _ _ m12 m15 _ _ (timesT (ps) (Pl.trim (plus (qs) (rs)))) (Pl.trim (plus (timesT (ps) (qs)) (timesT (ps) (rs)))) true hm12.out hm15.out (timesT_lt hp.out) (co_trim_lt (plus_lt (timesT_lt hp.out) (timesT_lt hp.out))) (decide_eq_true (ring_add hp.out hq.out hr.out)) _ y8_15.out hb15.out).mono ?_
    rintro e w16 ⟨rfl, hbel⟩
    have be16 := hidIt (then_below be15.out hbel)
    clear hbel be15 y8_15 hb15
    go_wp2_with (fail)
    refine (eval_any _ len0 _ x (ps) n0.out hp.out xb (by have := n0.out; have := z0.out; omega) _ (b0.out.below be16.out)).mono ?_
    rintro e w17 ⟨rfl, hbel⟩
    rw [hea.out]
    have be17 := hidIt (then_below be16.out hbel)
    clear hbel be16
    go_wp2_with (fail)
    refine (eval_any _ len1 _ x (qs) n1.out hq.out xb (by have := n1.out; have := z1.out; omega) _ (b1.out.below be17.out)).mono ?_
    rintro e w18 ⟨rfl, hbel⟩
    rw [heb.out]
    have be18 := hidIt (then_below be17.out hbel)
    clear hbel be17
    go_wp2_with (fail)
    refine (addR_any _ _ len0 len1 _ _ (ps) (qs) n0.out n1.out hp.out hq.out (by have := n0.out; have := z0.out; omega) (by have := n1.out; have := z1.out; omega) _ (b0.out.below be18.out) (b1.out.below be18.out)).mono ?_
    rintro e w19 ⟨⟨a19, m19, c19, rfl, hm, hb⟩, hbel⟩
    have hm19 := hidIt hm
    have z19 : Hid ((Pl.trim (plus (ps) (qs))).length ≤ 60) := plus_le z0.out z1.out
    have hb19 := hidIt hb
    clear hm hb
    have be19 := hidIt (then_below be18.out hbel)
    clear hbel be18
    go_wp2_with (fail)
    refine (eval_any _ m19 _ x (Pl.trim (plus (ps) (qs))) hm19.out (co_trim_lt (plus_lt hp.out hq.out)) xb (by have := hm19.out; have := z19.out; omega) _ hb19.out).mono ?_
    rintro e w20 ⟨rfl, hbel⟩
    rw [ring_ev_add xb hp.out hq.out, hea.out, heb.out]
    have be20 := hidIt (then_below be19.out hbel)
    clear hbel be19 hb19
    go_wp2_with (fail)
    refine (add_any ea eb ab bb _).mono ?_
    rintro e w' ⟨rfl, rfl⟩
    go_wp2_with (fail)
    refine (lawmul_any _ _ len0 len1 _ _ (ps) (qs) n0.out n1.out hp.out hq.out (by have := n0.out; have := z0.out; omega) (by have := n1.out; have := z1.out; omega) _ (b0.out.below be20.out) (b1.out.below be20.out)).mono ?_
    rintro e w21 ⟨⟨a21, m21, c21, rfl, hm, hb⟩, hbel⟩
    have hm21 := hidIt hm
    have z21 : Hid ((timesT (ps) (qs)).length ≤ 60) := timesT_le z0.out z1.out
    have hb21 := hidIt hb
    clear hm hb
    have be21 := hidIt (then_below be20.out hbel)
    clear hbel be20
    go_wp2_with (fail)
    refine (eval_any _ m21 _ x (timesT (ps) (qs)) hm21.out (timesT_lt hp.out) xb (by have := hm21.out; have := z21.out; omega) _ hb21.out).mono ?_
    rintro e w22 ⟨rfl, hbel⟩
    rw [ring_ev_mul xb hp.out hq.out, hea.out, heb.out]
    have be22 := hidIt (then_below be21.out hbel)
    clear hbel be21 hb21
    go_wp2_with (fail)
    refine (mul_any ea eb ab bb _).mono ?_
    rintro e w' ⟨rfl, rfl⟩
    go_wp2_with (fail)
    refine (addR_any _ _ len0 len0 _ _ (ps) (ps) n0.out n0.out hp.out hp.out (by have := n0.out; have := z0.out; omega) (by have := n0.out; have := z0.out; omega) _ (b0.out.below be22.out) (b0.out.below be22.out)).mono ?_
    rintro e w23 ⟨⟨a23, m23, c23, rfl, hm, hb⟩, hbel⟩
    have hm23 := hidIt hm
    have z23 : Hid ((Pl.trim (plus (ps) (ps))).length ≤ 60) := plus_le z0.out z0.out
    have hb23 := hidIt hb
    clear hm hb
    have be23 := hidIt (then_below be22.out hbel)
    clear hbel be22
    obtain rfl : m23 = 0 := by have := hm23.out; rw [ring_self] at this; exact this
    go_wp2_with (fail)
    obtain ⟨p1, hbel⟩ := one_lit w23 [1] #[.int .u8 1] 5 rfl
    have p1' := hidIt p1
    clear p1
    have be24 := hidIt (then_below be23.out hbel)
    clear hbel be23 hb23
    go_wp2_with (fail)
    refine (lawmul_any _ _ len0 1 _ _ (ps) ([1]) n0.out (rfl : 1 = ([1] : List Nat).length) hp.out (lt_all (by decide)) (by have := n0.out; have := z0.out; omega) (by have := (rfl : 1 = ([1] : List Nat).length); have := (by decide : ([1] : List Nat).length ≤ 1); omega) _ (b0.out.below be24.out) p1'.out).mono ?_
    rintro e w25 ⟨⟨a25, m25, c25, rfl, hm, hb⟩, hbel⟩
    have hm25 := hidIt hm
    have z25 : Hid ((timesT (ps) ([1])).length ≤ 31) := timesT_le z0.out (by decide : ([1] : List Nat).length ≤ 1)
    have hb25 := hidIt hb
    clear hm hb
    have be25 := hidIt (then_below be24.out hbel)
    clear hbel be24 p1'
    go_wp2_with (fail)
    refine (trimR_any _ len0 _ (ps) n0.out hp.out (by have := n0.out; have := z0.out; omega) _ (b0.out.below be25.out)).mono ?_
    rintro e w26 ⟨⟨a26, m26, c26, rfl, hm, hb⟩, hbel⟩
    have hm26 := hidIt hm
    have z26 : Hid ((Pl.trim (ps)).length ≤ 30) := trim_le z0.out
    have hb26 := hidIt hb
    clear hm hb
    have y16_26 := hidIt (hb25.out.below hbel)
    have be26 := hidIt (then_below be25.out hbel)
    clear hbel be25 hb25
    go_wp2_with (fail)
    refine (same6b _ _ m25 m26 _ _ (timesT (ps) ([1])) (Pl.trim (ps)) true hm25.out hm26.out (timesT_lt hp.out) (co_trim_lt hp.out) (decide_eq_true (ring_one hp.out)) _ y16_26.out hb26.out).mono ?_
    rintro e w27 ⟨rfl, hbel⟩
    have be27 := hidIt (then_below be26.out hbel)
    clear hbel be26 y16_26 hb26
    go_wp2_with (fail)
    go_ret
    exact ⟨rfl, be27.out⟩
end Go.Proofs.Ytbdjnkndjimlcaa
