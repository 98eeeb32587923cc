import Derived.Test.YtnkemflpenlmgaaRl
namespace Go.Proofs.Ytnkemflpenlmgaa
open Go.RowKit
/-- rotl of the reference: it draws -/
theorem rrotl_any (x n : Nat) (k : Int) (hk : k = n) (hx : x < 4294967296) (h1 : 1 ≤ n) (h2 : n ≤ 31) (w : World) :
    Calls Try.prog 22 #[.int .u32 x, .int .i64 k] w fun e w' => e = .returned (.int .u32 (Cc.rl x n)) ∧ ∃ m, w' = w.drewN m := by
  subst hk
  obtain ⟨s, hs⟩ : ∃ s, s + n = 32 := ⟨32 - n, by omega⟩
  have hn : (32 : Int) - (n : Int) = (s : Int) := by omega
  have hsn : Hid (s = 32 - n) := by show _ = _; omega
  have hor := hidIt (Cc.rl_or hx (n := n) (by omega))
  have v1 : IntKind.i64.wrap (s : Int) = (s : Int) := IntWalk.i64_in _ (by omega)
  have hb1 : (0 : Int) ≤ (s : Int) := by omega
  have hb2 : s ≤ 31 := by omega
  have hb3 : ¬ (s : Int) < 0 := by omega
  clear hs
  go_enter Try.func22, Try.ntmps22
  go_wp2
  go_quiet (fail)
  go_wp2
  go_ret
  refine ⟨ret_int ?_, ⟨_, rfl⟩⟩
  have e1 : (x : Int) * 2 ^ n % 4294967296 = ((x * 2 ^ n % 4294967296 : Nat) : Int) := by rw [Int.natCast_emod, Int.natCast_mul, Int.natCast_pow]; rfl
  have e2 : (x : Int) / 2 ^ s = ((x / 2 ^ s : Nat) : Int) := by rw [Int.natCast_ediv, Int.natCast_pow]; rfl
  rw [e1, e2, u32_or_nat _ _ (Nat.mod_lt _ (by decide)) (Nat.lt_of_le_of_lt (Nat.div_le_self _ _) hx), hsn.out, hor.out]
def rrv (x n : Nat) : Nat := (x / 2 ^ n) ||| (x * 2 ^ (32 - n) % 4294967296)
theorem rrotr_any (x n : Nat) (k : Int) (hk : k = n) (hx : x < 4294967296) (h1 : 1 ≤ n) (h2 : n ≤ 31) (r : Nat) (hr : rrv x n = r) (w : World) :
    Calls Try.prog 14 #[.int .u32 x, .int .i64 k] w fun e w' => e = .returned (.int .u32 r) ∧ Below w.heap.size w w' := by
  subst hk
  obtain ⟨s, hs⟩ : ∃ s, s + n = 32 := ⟨32 - n, by omega⟩
  have hn : (32 : Int) - (n : Int) = (s : Int) := by omega
  have hsn : Hid (s = 32 - n) := by show _ = _; omega
  have hr2 := hidIt hr
  have v1 : IntKind.i64.wrap (s : Int) = (s : Int) := IntWalk.i64_in _ (by omega)
  have hb1 : (0 : Int) ≤ (s : Int) := by omega
  have hb2 : s ≤ 31 := by omega
  have hb3 : ¬ (s : Int) < 0 := by omega
  clear hs hr
  go_enter Try.func14, Try.ntmps14
  go_wp2
  go_quiet (fail)
  go_wp2
  go_ret
  refine ⟨ret_int ?_, below_drewN (Below.refl _ _) _⟩
  have e1 : (x : Int) * 2 ^ s % 4294967296 = ((x * 2 ^ s % 4294967296 : Nat) : Int) := by rw [Int.natCast_emod, Int.natCast_mul, Int.natCast_pow]; rfl
  have e2 : (x : Int) / 2 ^ n = ((x / 2 ^ n : Nat) : Int) := by rw [Int.natCast_ediv, Int.natCast_pow]; rfl
  rw [e1, e2, u32_or_nat _ _ (Nat.lt_of_le_of_lt (Nat.div_le_self _ _) hx) (Nat.mod_lt _ (by decide)), hsn.out, ← hr2.out]
  rfl
set_option maxRecDepth 100000 in
theorem refquarter_any (s : Cc.Q) (hs : s.Ok) (w : World) :
    Calls Try.prog 12 #[.int .u32 s.a, .int .u32 s.b, .int .u32 s.c, .int .u32 s.d] w fun e w' => e = .returned (.tuple #[.int .u32 (Cc.qr s).a, .int .u32 (Cc.qr s).b, .int .u32 (Cc.qr s).c, .int .u32 (Cc.qr s).d]) ∧ ∃ m, w' = w.drewN m := by
  obtain ⟨a, b, c, d⟩ := s
  obtain ⟨ha, hb, hc, hd⟩ := hs
  simp only at ha hb hc hd
  obtain ⟨a1, A1, la1, ea1⟩ := plus_int a b
  obtain ⟨x1, X1, lx1, ex1⟩ := xor_int hd la1
  obtain ⟨d1, ed1, ld1⟩ := rl_name (n := 16) lx1 (by decide)
  obtain ⟨c1, C1, lc1, ec1⟩ := plus_int c d1
  obtain ⟨x2, X2, lx2, ex2⟩ := xor_int hb lc1
  obtain ⟨b1, eb1, lb1⟩ := rl_name (n := 12) lx2 (by decide)
  obtain ⟨a2, A2, la2, ea2⟩ := plus_int a1 b1
  obtain ⟨x3, X3, lx3, ex3⟩ := xor_int ld1 la2
  obtain ⟨d2, ed2, ld2⟩ := rl_name (n := 8) lx3 (by decide)
  obtain ⟨c2, C2, lc2, ec2⟩ := plus_int c1 d2
  obtain ⟨x4, X4, lx4, ex4⟩ := xor_int lb1 lc2
  obtain ⟨b2, eb2, lb2⟩ := rl_name (n := 7) lx4 (by decide)
  have hfin : Hid ((⟨a2, b2, c2, d2⟩ : Cc.Q) = Cc.qr ⟨a, b, c, d⟩) := by
    show _ = _
    rw [← eb2.out, ← ed2.out, ex4.out, ec2.out, ex3.out, ea2.out, ← ed2.out, ← eb1.out, ex3.out, ea2.out, ex2.out, ec1.out, ← ed1.out, ← eb1.out, ex1.out, ea1.out, ex2.out, ec1.out, ← ed1.out, ex1.out, ea1.out]
    rfl
  clear ea1 ex1 ec1 ex2 ea2 ex3 ec2 ex4
  go_enter Try.func12, Try.ntmps12
  go_wp2_with (fail)
  refine (rrotl_any x1 16 _ rfl lx1 (by decide) (by decide) _).mono ?_
  rintro e w1 ⟨rfl, m1, rfl⟩
  rw [ed1.out]
  go_wp2_with (fail)
  refine (rrotl_any x2 12 _ rfl lx2 (by decide) (by decide) _).mono ?_
  rintro e w1 ⟨rfl, m2, rfl⟩
  rw [eb1.out]
  go_wp2_with (fail)
  refine (rrotl_any x3 8 _ rfl lx3 (by decide) (by decide) _).mono ?_
  rintro e w1 ⟨rfl, m3, rfl⟩
  rw [ed2.out]
  go_wp2_with (fail)
  refine (rrotl_any x4 7 _ rfl lx4 (by decide) (by decide) _).mono ?_
  rintro e w1 ⟨rfl, m4, rfl⟩
  rw [eb2.out]
  go_wp2_with (fail)
  (try simp only [Exit.inBlock, Exit.then])
  refine bodyPost_ret (results_tmp4 rfl _ _ _) rfl ?_
  exact ⟨ret_q hfin.out, ⟨m1 + m2 + m3 + m4, rfl⟩⟩
end Go.Proofs.Ytnkemflpenlmgaa
