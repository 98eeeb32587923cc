import Derived.Test.YtnkemflpenlmgaaBy
import Derived.Test.YtnkemflpenlmgaaCc
namespace Go.Proofs.Ytnkemflpenlmgaa
open Go.RowKit
theorem rotl_any (x n : Nat) (k : Int) (hk : k = n) (hx : x < 4294967296) (h1 : 1 ≤ n) (h2 : n ≤ 31) (w : World) :
    Calls Try.prog 21 #[.int .u32 x, .int .i64 k] w fun e w' => e = .returned (.int .u32 (Cc.rl x n)) ∧ w = w' := by
  subst hk
  obtain ⟨s, hs⟩ : ∃ s, s + n = 32 := ⟨32 - n, by omega⟩
  have ha : bits BinOp.and IntKind.u64 (n : Int) 31 = (n : Int) := by
    have e2 := u64_and_nat n 31 (by omega) (by decide)
    rw [show (31 : Int) = ((31 : Nat) : Int) from rfl, e2, show (31 : Nat) = 2 ^ 5 - 1 from rfl, Nat.and_two_pow_sub_one_eq_mod]
    omega
  have hn : (32 : Int) - (n : Int) = (s : Int) := by omega
  have hb : 1 ≤ s ∧ s ≤ 31 := by omega
  have hsn : Hid (s = 32 - n) := by show _ = _; omega
  have hor := hidIt (Cc.rl_or hx (n := n) (by omega))
  have hb1 := hb.1
  have hb2 := hb.2
  clear hs hb
  go_enter Try.func21, Try.ntmps21
  go_wp2
  go_ret
  refine ⟨ret_int ?_, rfl⟩
  have e1 : (x : Int) * 2 ^ n % 4294967296 = ((x * 2 ^ n % 4294967296 : Nat) : Int) := by rw [Int.natCast_emod, Int.natCast_mul, Int.natCast_pow]; rfl
  have e2 : (x : Int) / 2 ^ s = ((x / 2 ^ s : Nat) : Int) := by rw [Int.natCast_ediv, Int.natCast_pow]; rfl
  rw [e1, e2, u32_or_nat _ _ (Nat.mod_lt _ (by decide)) (Nat.lt_of_le_of_lt (Nat.div_le_self _ _) hx), hsn.out, hor.out]
theorem plus_int (a b : Nat) : ∃ q : Nat, IntKind.u32.wrap ((a : Int) + (b : Int)) = (q : Int) ∧ q < 4294967296 ∧ Hid (q = Cc.add a b) := ⟨_, by unfold Cc.add; rw [IntKind.wrap_u32]; omega, Cc.add_lt a b, rfl⟩
theorem xor_int {a b : Nat} (ha : a < 4294967296) (hb : b < 4294967296) : ∃ q : Nat, bits BinOp.xor IntKind.u32 (a : Int) (b : Int) = (q : Int) ∧ q < 4294967296 ∧ Hid (q = a ^^^ b) := ⟨_, u32_xor_nat _ _ ha hb, Cc.xor_lt ha hb, rfl⟩
theorem rl_name {x n : Nat} (h : x < 4294967296) (hn : n ≤ 32) : ∃ q : Nat, Hid (Cc.rl x n = q) ∧ q < 4294967296 := ⟨_, rfl, Cc.rl_lt h hn⟩
theorem results_tmp4 {fn : Func} {t u v x : Tmp} (h : fn.results = #[.tmp t, .tmp u, .tmp v, .tmp x]) (tmps : Array Value) (P : Program) (w : World) :
    (results fn tmps).run P w = .ok (.tuple #[tmps.getD t undef, tmps.getD u undef, tmps.getD v undef, tmps.getD x undef]) w := by
  simp [results, h]
theorem ret_q {p q : Cc.Q} (h : p = q) : Ending.returned (.tuple #[.int .u32 p.a, .int .u32 p.b, .int .u32 p.c, .int .u32 p.d]) = .returned (.tuple #[.int .u32 q.a, .int .u32 q.b, .int .u32 q.c, .int .u32 q.d]) := by rw [h]
set_option maxRecDepth 100000 in
theorem quarter_any (s : Cc.Q) (hs : s.Ok) (w : World) :
    Calls Try.prog 11 #[.int .u32 s.a, .int .u32 s.b, .int .u32 s.c, .int .u32 s.d] w fun e w' => e = .returned (.tuple #[.int .u32 (Cc.qr s).a, .int .u32 (Cc.qr s).b, .int .u32 (Cc.qr s).c, .int .u32 (Cc.qr s).d]) ∧ w = w' := by
  obtain ⟨a, b, c, d⟩ := s
  obtain ⟨ha, hb, hc, hd⟩ := hs
  simp only at ha hb hc hd
  obtain ⟨a1, A1, la1, ea1⟩ := plus_int a b
  obtain ⟨x1, X1, lx1, ex1⟩ := xor_int hd la1
  obtain ⟨d1, ed1, ld1⟩ := rl_name (n := 16) lx1 (by decide)
  obtain ⟨c1, C1, lc1, ec1⟩ := plus_int c d1
  obtain ⟨x2, X2, lx2, ex2⟩ := xor_int hb lc1
  obtain ⟨b1, eb1, lb1⟩ := rl_name (n := 12) lx2 (by decide)
  obtain ⟨a2, A2, la2, ea2⟩ := plus_int a1 b1
  obtain ⟨x3, X3, lx3, ex3⟩ := xor_int ld1 la2
  obtain ⟨d2, ed2, ld2⟩ := rl_name (n := 8) lx3 (by decide)
  obtain ⟨c2, C2, lc2, ec2⟩ := plus_int c1 d2
  obtain ⟨x4, X4, lx4, ex4⟩ := xor_int lb1 lc2
  obtain ⟨b2, eb2, lb2⟩ := rl_name (n := 7) lx4 (by decide)
  have hfin : Hid ((⟨a2, b2, c2, d2⟩ : Cc.Q) = Cc.qr ⟨a, b, c, d⟩) := by
    show _ = _
    rw [← eb2.out, ← ed2.out, ex4.out, ec2.out, ex3.out, ea2.out, ← ed2.out, ← eb1.out, ex3.out, ea2.out, ex2.out, ec1.out, ← ed1.out, ← eb1.out, ex1.out, ea1.out, ex2.out, ec1.out, ← ed1.out, ex1.out, ea1.out]
    rfl
  clear ea1 ex1 ec1 ex2 ea2 ex3 ec2 ex4
  go_enter Try.func11, Try.ntmps11
  go_wp2_with (fail)
  refine (rotl_any x1 16 _ rfl lx1 (by decide) (by decide) _).mono ?_
  rintro e w1 ⟨rfl, rfl⟩
  rw [ed1.out]
  go_wp2_with (fail)
  refine (rotl_any x2 12 _ rfl lx2 (by decide) (by decide) _).mono ?_
  rintro e w1 ⟨rfl, rfl⟩
  rw [eb1.out]
  go_wp2_with (fail)
  refine (rotl_any x3 8 _ rfl lx3 (by decide) (by decide) _).mono ?_
  rintro e w1 ⟨rfl, rfl⟩
  rw [ed2.out]
  go_wp2_with (fail)
  refine (rotl_any x4 7 _ rfl lx4 (by decide) (by decide) _).mono ?_
  rintro e w1 ⟨rfl, rfl⟩
  rw [eb2.out]
  go_wp2_with (fail)
  (try simp only [Exit.inBlock, Exit.then])
  refine bodyPost_ret (results_tmp4 rfl _ _ _) rfl ?_
  exact ⟨ret_q hfin.out, rfl⟩
end Go.Proofs.Ytnkemflpenlmgaa
