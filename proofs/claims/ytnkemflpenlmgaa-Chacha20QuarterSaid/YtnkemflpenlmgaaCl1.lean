import Derived.Test.YtnkemflpenlmgaaAwk7
import Derived.Test.YtnkemflpenlmgaaRef7
namespace Go.Proofs.Ytnkemflpenlmgaa
open Go.RowKit
theorem u32_nat {x : Int} (h : (Lit.int .u32 x).wf = true) : ∃ n : Nat, x = n ∧ n < 4294967296 := by
  have := bounds_u32 h
  exact ⟨x.toNat, by omega, by omega⟩
set_option maxRecDepth 100000 in
theorem quarterlaw_walk (x0 x1 x2 x3 : Int) (w : World) (w0 : (Lit.int .u32 x0).wf = true) (w1 : (Lit.int .u32 x1).wf = true) (w2 : (Lit.int .u32 x2).wf = true) (w3 : (Lit.int .u32 x3).wf = true) :
    Calls Try.prog 3 #[.int .u32 x0, .int .u32 x1, .int .u32 x2, .int .u32 x3] w fun e w' => e = .returned (.bool true) ∧ Below w.heap.size w w' := by
  obtain ⟨a, rfl, la⟩ := u32_nat w0
  obtain ⟨b, rfl, lb⟩ := u32_nat w1
  obtain ⟨c, rfl, lc⟩ := u32_nat w2
  obtain ⟨d, rfl, ld⟩ := u32_nat w3
  obtain ⟨a2, b2, c2, d2, hq⟩ : ∃ a2 b2 c2 d2, Cc.qr ⟨a, b, c, d⟩ = ⟨a2, b2, c2, d2⟩ := ⟨_, _, _, _, rfl⟩
  have h1 := fun W => quarter_any ⟨a, b, c, d⟩ ⟨la, lb, lc, ld⟩ W
  have h2 := fun W => refquarter_any ⟨a, b, c, d⟩ ⟨la, lb, lc, ld⟩ W
  rw [hq] at h1 h2
  simp only at h1 h2
  clear hq w0 w1 w2 w3 la lb lc ld
  go_enter Try.func3, Try.ntmps3
  go_wp2_with (fail)
  refine (h1 _).mono ?_
  rintro e v1 ⟨rfl, rfl⟩
  go_wp2_with (fail)
  refine (h2 _).mono ?_
  rintro e v1 ⟨rfl, m, rfl⟩
  go_wp2_with (fail)
  refine (awake_any _).mono ?_
  rintro e v2 ⟨rfl, hb⟩
  have hb2 : Hid (Below w.heap.size w v2) := (below_drewN (Below.refl _ w) m).trans hb
  clear hb h1 h2
  go_wp2_with (fail)
  go_ret
  exact ⟨rfl, hb2.out⟩
theorem hf_parts {m n : Nat} {a b c d a1 b1 c1 d1 : Nat} (h : Cc.hf m n ⟨a, b, c, d⟩ = ⟨a1, b1, c1, d1⟩) : a1 = Cc.add a b ∧ d1 = Cc.rl (d ^^^ a1) m ∧ c1 = Cc.add c d1 ∧ b1 = Cc.rl (b ^^^ c1) n := by
  simp only [Cc.hf, Cc.Q.mk.injEq] at h
  obtain ⟨rfl, rfl, rfl, rfl⟩ := h
  exact ⟨rfl, rfl, rfl, rfl⟩
theorem rrv_rl {x n y : Nat} (h : x < 4294967296) (hn : n ≤ 32) (hy : y = Cc.rl x n) : rrv y n = x := by rw [hy]; exact Cc.rr_rl h hn
theorem xor_int2 {a b : Nat} (ha : a < 4294967296) (hb : b < 4294967296) : bits BinOp.xor IntKind.u32 ((a ^^^ b : Nat) : Int) (b : Int) = (a : Int) := by
  rw [u32_xor_nat _ _ (Cc.xor_lt ha hb) hb, Cc.xor_back]
theorem sub_int {a b c : Nat} (ha : a < 4294967296) (h : c = Cc.add a b) : IntKind.u32.wrap ((c : Int) - (b : Int)) = (a : Int) := by
  rw [IntKind.wrap_u32, h]; exact Cc.sub_back ha
set_option maxRecDepth 100000 in
theorem invertslaw_walk (x0 x1 x2 x3 : Int) (w : World) (w0 : (Lit.int .u32 x0).wf = true) (w1 : (Lit.int .u32 x1).wf = true) (w2 : (Lit.int .u32 x2).wf = true) (w3 : (Lit.int .u32 x3).wf = true) :
    Calls Try.prog 4 #[.int .u32 x0, .int .u32 x1, .int .u32 x2, .int .u32 x3] w fun e w' => e = .returned (.bool true) ∧ Below w.heap.size w w' := by
  obtain ⟨a, rfl, la⟩ := u32_nat w0
  obtain ⟨b, rfl, lb⟩ := u32_nat w1
  obtain ⟨c, rfl, lc⟩ := u32_nat w2
  obtain ⟨d, rfl, ld⟩ := u32_nat w3
  obtain ⟨a1, b1, c1, d1, hq1⟩ : ∃ a1 b1 c1 d1, Cc.hf 16 12 ⟨a, b, c, d⟩ = ⟨a1, b1, c1, d1⟩ := ⟨_, _, _, _, rfl⟩
  obtain ⟨a2, b2, c2, d2, hq2⟩ : ∃ a2 b2 c2 d2, Cc.hf 8 7 ⟨a1, b1, c1, d1⟩ = ⟨a2, b2, c2, d2⟩ := ⟨_, _, _, _, rfl⟩
  have ok1 := Cc.hf_ok (q := ⟨a, b, c, d⟩) ⟨la, lb, lc, ld⟩ (m := 16) (n := 12) (by decide) (by decide)
  rw [hq1] at ok1
  have ok2 := Cc.hf_ok (q := ⟨a1, b1, c1, d1⟩) ok1 (m := 8) (n := 7) (by decide) (by decide)
  rw [hq2] at ok2
  have hq : Cc.qr ⟨a, b, c, d⟩ = ⟨a2, b2, c2, d2⟩ := by unfold Cc.qr; rw [hq1, hq2]
  obtain ⟨la1, lb1, lc1, ld1⟩ := ok1
  obtain ⟨la2, lb2, lc2, ld2⟩ := ok2
  simp only at la1 lb1 lc1 ld1 la2 lb2 lc2 ld2
  have h1 := fun W => quarter_any ⟨a, b, c, d⟩ ⟨la, lb, lc, ld⟩ W
  rw [hq] at h1
  simp only at h1
  obtain ⟨ea1, ed1, ec1, eb1⟩ := hf_parts hq1
  obtain ⟨ea2, ed2, ec2, eb2⟩ := hf_parts hq2
  have r1 := fun W => rrotr_any b2 7 _ rfl lb2 (by decide) (by decide) _ (rrv_rl (Cc.xor_lt lb1 lc2) (by decide) eb2) W
  have r2 := fun W => rrotr_any d2 8 _ rfl ld2 (by decide) (by decide) _ (rrv_rl (Cc.xor_lt ld1 la2) (by decide) ed2) W
  have r3 := fun W => rrotr_any b1 12 _ rfl lb1 (by decide) (by decide) _ (rrv_rl (Cc.xor_lt lb lc1) (by decide) eb1) W
  have r4 := fun W => rrotr_any d1 16 _ rfl ld1 (by decide) (by decide) _ (rrv_rl (Cc.xor_lt ld la1) (by decide) ed1) W
  have x1 := xor_int2 lb1 lc2
  have x2 := xor_int2 ld1 la2
  have x3 := xor_int2 lb lc1
  have x4 := xor_int2 ld la1
  have s1 := sub_int lc1 ec2
  have s2 := sub_int la1 ea2
  have s3 := sub_int lc ec1
  have s4 := sub_int la ea1
  generalize b1 ^^^ c2 = y1 at *
  generalize d1 ^^^ a2 = y2 at *
  generalize b ^^^ c1 = y3 at *
  generalize d ^^^ a1 = y4 at *
  replace r1 := hidIt r1
  replace r2 := hidIt r2
  replace r3 := hidIt r3
  replace r4 := hidIt r4
  clear hq hq1 hq2 w0 w1 w2 w3 la lb lc ld la1 lb1 lc1 ld1 la2 lb2 lc2 ld2 ea1 eb1 ec1 ed1 ea2 eb2 ec2 ed2
  go_enter Try.func4, Try.ntmps4
  go_wp2_with (fail)
  refine (h1 _).mono ?_
  rintro e v1 ⟨rfl, rfl⟩
  clear h1
  go_wp2_with (fail)
  refine (r1.out _).mono ?_
  rintro e v1 ⟨rfl, hb1⟩
  go_wp2_with (fail)
  refine (r2.out _).mono ?_
  rintro e v2 ⟨rfl, hb2⟩
  have H2 := hidIt (below_then hb1 hb2)
  clear hb1 hb2
  go_wp2_with (fail)
  refine (r3.out _).mono ?_
  rintro e v3 ⟨rfl, hb3⟩
  have H3 := hidIt (below_then H2.out hb3)
  clear hb3 H2
  go_wp2_with (fail)
  refine (r4.out _).mono ?_
  rintro e v4 ⟨rfl, hb4⟩
  have H4 := hidIt (below_then H3.out hb4)
  clear hb4 H3
  go_wp2_with (fail)
  refine (awake_any _).mono ?_
  rintro e v5 ⟨rfl, hb5⟩
  have H5 := hidIt (below_then H4.out hb5)
  clear hb5 H4
  go_wp2_with (fail)
  go_ret
  exact ⟨rfl, H5.out⟩
end Go.Proofs.Ytnkemflpenlmgaa
