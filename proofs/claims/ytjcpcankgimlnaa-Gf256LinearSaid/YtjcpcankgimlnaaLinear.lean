import Derived.Test.YtjcpcankgimlnaaSlices
namespace Go.Proofs.Ytjcpcankgimlnaa
open Go.RowKit
theorem lin_point {x y a b : Nat} (_hx : x < 256) (hy : y < 256) (ha : a < 256) (hb : b < 256) : (x ^^^ Gf.mul y a) ^^^ Gf.mul y b = x ^^^ Gf.mul y (a ^^^ b) := by
  rw [Gf.mul_xor hy ha hb, Nat.xor_assoc]
theorem dot_lin (f g h : Nat → Nat) (a n : Nat) (ha : a < 256) (hf : ∀ i, i < n → f i < 256) (hg : ∀ i, i < n → g i < 256) (hh : ∀ i, i < n → h i < 256) :
    Gf.dot f h n ^^^ Gf.mul a (Gf.dot g h n) = Gf.dot (fun i => f i ^^^ Gf.mul (g i) a) h n := by
  induction n with
  | zero => simp [Gf.dot, Gf.mul_zero]
  | succ n ih =>
    have ih := ih (fun i hi => hf i (by omega)) (fun i hi => hg i (by omega)) (fun i hi => hh i (by omega))
    have hfn := hf n (by omega)
    have hgn := hg n (by omega)
    have hhn := hh n (by omega)
    have hd := Gf.dot_lt g h n (fun i hi => hg i (by omega))
    simp only [Gf.dot]
    rw [← ih, Gf.mul_xor ha hd (Gf.mul_lt _ hgn), Gf.xor_mul _ hfn (Gf.mul_lt _ hgn), Gf.mul_assoc ha hgn hhn, Gf.mul_comm ha hgn, Gf.xor4]
set_option maxRecDepth 100000 in
set_option maxHeartbeats 1000000 in
theorem linear_walk (a0 a1 a2 : Option Addr) (n0 c0 n1 c1 n2 c2 : Nat) (f g h : Nat → Nat) (x y : Int) (w : World) (h0 : Bytes w a0 n0 f) (h1 : Bytes w a1 n1 g) (h2 : Bytes w a2 n2 h) (wx : (Lit.int .u8 x).wf = true) (wy : (Lit.int .u8 y).wf = true) :
    Calls Try.prog 10 #[.slice a0 n0 c0, .slice a1 n1 c1, .slice a2 n2 c2, .int .u8 x, .int .u8 y] w fun e w' => e = .returned (.bool true) ∧ Below w.heap.size w w' := by
  obtain ⟨a, ha, rfl⟩ := nat_u8 wx
  obtain ⟨b, hb, rfl⟩ := nat_u8 wy
  clear wx wy
  by_cases hbad : n0 ≠ n1 ∨ n1 ≠ n2 ∨ 200 < n0
  · go_enter Try.func10, Try.ntmps10
    go_wp2_with (fail)
    refine (awake_any _).mono ?_
    rintro e w1 ⟨rfl, hb1⟩
    go_wp2_with (fail)
    all_goals (go_ret; exact ⟨rfl, hb1⟩)
  obtain rfl : n0 = n1 := by omega
  obtain rfl : n0 = n2 := by omega
  have hn : n0 ≤ 200 := by omega
  clear hbad
  have hab : a ^^^ b < 256 := Gf.xor_lt ha hb
  have hp : ∀ i, i < n0 → f i ^^^ Gf.mul (g i) a < 256 := fun i hi => Gf.xor_lt (h0 i hi).1 (Gf.mul_lt _ (h1 i hi).1)
  have hd1 := Gf.dot_lt g h n0 (fun i hi => (h1 i hi).1)
  have hd2 := Gf.dot_lt f h n0 (fun i hi => (h0 i hi).1)
  have E1 := hidIt (dot_lin f g h a n0 ha (fun i hi => (h0 i hi).1) (fun i hi => (h1 i hi).1) (fun i hi => (h2 i hi).1))
  go_enter Try.func10, Try.ntmps10
  go_wp2_with (fail)
  refine (awake_any _).mono ?_
  rintro e w1 ⟨rfl, hb1⟩
  go_wp2_with (fail)
  refine (muladd_any _ _ n0 _ _ a f g hn ha _ (h0.below hb1) (h1.below hb1)).mono ?_
  rintro e w2 ⟨rfl, R2, hb2⟩
  have H2 := below_then hb1 hb2
  have B2 := R2.bytes hp
  go_wp2_with (fail)
  refine (muladd_any _ _ n0 _ _ b _ g hn hb _ B2 (h1.below H2)).mono ?_
  rintro e w3 ⟨rfl, R3, hb3⟩
  have H3 := below_then H2 hb3
  have B3 := R3.bytes (fun i hi => Gf.xor_lt (hp i hi) (Gf.mul_lt _ (h1 i hi).1))
  go_wp2_with (fail)
  refine (add_at a b _ rfl rfl ha hb rfl _).mono ?_
  rintro e w' ⟨rfl, rfl⟩
  go_wp2_with (fail)
  refine (muladd_any _ _ n0 _ _ (a ^^^ b) f g hn hab _ (h0.below H3) (h1.below H3)).mono ?_
  rintro e w4 ⟨rfl, R4, hb4⟩
  have H4 := below_then H3 hb4
  have B4 := R4.bytes (fun i hi => Gf.xor_lt (h0 i hi).1 (Gf.mul_lt _ (h1 i hi).1))
  have k1 := conv_bytes w4 _ n0 n0 _ (fun e => by cases e) (B3.below hb4)
  have k2 := conv_bytes w4 _ n0 n0 _ (fun e => by cases e) B4
  rw [← bstr_congr (fun i hi => lin_point (h0 i hi).1 (h1 i hi).1 ha hb)] at k2
  go_wp2_with (fail)
  refine (dot_any _ _ n0 _ _ _ h (by omega) _ ((B2.below hb3).below hb4) (h2.below H4)).mono ?_
  rintro e w5 ⟨rfl, hm5⟩
  have hb5 := drewN_below (B := w4.heap.size) hm5
  have H5 := below_then H4 hb5
  clear k1 k2
  go_wp2_with (fail)
  refine (dot_any _ _ n0 _ _ f h (by omega) _ (h0.below H5) (h2.below H5)).mono ?_
  rintro e w6 ⟨rfl, hm6⟩
  have H6 := below_then H5 (drewN_below (B := w5.heap.size) hm6)
  go_wp2_with (fail)
  refine (dot_any _ _ n0 _ _ g h (by omega) _ (h1.below H6) (h2.below H6)).mono ?_
  rintro e w7 ⟨rfl, hm7⟩
  have H7 := below_then H6 (drewN_below (B := w6.heap.size) hm7)
  go_wp2_with (fail)
  refine (mul_at a (Gf.dot g h n0) _ rfl rfl ha hd1 rfl _).mono ?_
  rintro e w' ⟨rfl, rfl⟩
  go_wp2_with (fail)
  refine (add_at (Gf.dot f h n0) (Gf.mul a (Gf.dot g h n0)) _ rfl rfl hd2 (Gf.mul_lt _ ha) (by rw [E1.out]) _).mono ?_
  rintro e w' ⟨rfl, rfl⟩
  go_wp2_with (fail)
  go_ret
  exact ⟨rfl, H7⟩
end Go.Proofs.Ytjcpcankgimlnaa
