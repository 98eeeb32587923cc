import Derived.Test.YtjcpcankgimlnaaRefAdd
namespace Go.Proofs.Ytjcpcankgimlnaa
open Go.RowKit
theorem dot_len (a1 a2 : Option Addr) (n1 n2 c1 c2 : Nat) (h : n1 ≠ n2) (w : World) :
    Calls Try.prog 28 #[.slice a1 n1 c1, .slice a2 n2 c2] w fun e w' => e = .returned (.tuple #[.int .u8 0, .int .i64 1]) ∧ w = w' := by
  go_enter Try.func28, Try.ntmps28
  go_wp2
  go_ret2
  exact ⟨rfl, rfl⟩
theorem fillA_none (n : Nat) : fillA (fun _ => 0) n 0 = fillA (fun _ => 0) n n := by simp [fillA]
theorem zero_row (w : World) (n : Nat) : Row (w.alloc (.cells (fillA (fun _ => 0) n 0) 5)) w.heap.size n n (fun _ => 0) := by
  unfold Row; rw [← fillA_none]; exact heap_alloc_new _ _
theorem drewN_below {B : Nat} {w w1 : World} (h : ∃ m, w1 = w.drewN m) : Below B w w1 := by
  obtain ⟨m, rfl⟩ := h; exact below_drewN (Below.refl _ _) m
set_option maxRecDepth 100000 in
set_option maxHeartbeats 1000000 in
theorem slices_walk (a0 a1 : Option Addr) (n0 c0 n1 c1 : Nat) (f g : Nat → Nat) (x : Int) (w : World) (h0 : Bytes w a0 n0 f) (h1 : Bytes w a1 n1 g) (wx : (Lit.int .u8 x).wf = true) :
    Calls Try.prog 5 #[.slice a0 n0 c0, .slice a1 n1 c1, .int .u8 x] w fun e w' => e = .returned (.bool true) ∧ Below w.heap.size w w' := by
  obtain ⟨c, hc, rfl⟩ := nat_u8 wx
  clear wx
  by_cases hbig : 200 < n0 ∨ 200 < n1
  · go_enter Try.func5, Try.ntmps5
    go_wp2_with (fail)
    refine (awake_any _).mono ?_
    rintro e w1 ⟨rfl, hb1⟩
    go_wp2_with (fail)
    all_goals (go_ret; exact ⟨rfl, hb1⟩)
  have hn0 : n0 ≤ 200 := by omega
  have hn1 : n1 ≤ 200 := by omega
  have t0 : ¬ (200 : Int) < (n0 : Int) := by omega
  have t1 : ¬ (200 : Int) < (n1 : Int) := by omega
  have hmk := make37 n0 (by omega)
  clear hbig
  by_cases hne : n0 = n1
  · subst hne
    go_enter Try.func5, Try.ntmps5
    go_wp2_with (fail)
    refine (awake_any _).mono ?_
    rintro e w1 ⟨rfl, hb1⟩
    go_wp2_with (fail)
    refine (muladd_any _ _ n0 _ _ c f g hn0 hc _ (h0.below hb1) (h1.below hb1)).mono ?_
    rintro e w2 ⟨rfl, R2, hb2⟩
    have H2 := below_then hb1 hb2
    go_wp2_with (fail)
    refine (dot_any _ _ n0 _ _ f g (by omega) _ (h0.below H2) (h1.below H2)).mono ?_
    rintro e w3 ⟨rfl, hm3⟩
    have hb3 := drewN_below (B := w2.heap.size) hm3
    have H3 := below_then H2 hb3
    go_wp2_with (fail)
    have hb4 := (Below.refl w3.heap.size w3).alloc (Nat.le_refl _) (.cells (fillA (fun _ => 0) n0 0) 5)
    have Z := (zero_row w3 n0).bytes (fun _ _ => by decide)
    have H4 := below_then H3 hb4
    refine (scale_any a0 n0 c0 c f hn0 hc _ (h0.below H4)).mono ?_
    rintro e w5 ⟨rfl, R5, hb5⟩
    rw [World.size_alloc] at R5
    have H5 := below_then H4 hb5
    go_wp2_with (fail)
    refine (refmuladd_any _ a0 n0 _ c0 c (fun _ => 0) f hn0 hc _ (Z.below hb5) (h0.below H5)).mono ?_
    rintro e w6 ⟨v6, rfl, O6, hb6⟩
    obtain ⟨a6, k6, rfl, B6⟩ := owned_bytes O6 (fun i hi => by rw [Nat.zero_xor]; exact Gf.mul_lt _ ((h0 i hi).1))
    have S5 := (R5.bytes (fun i hi => Gf.mul_lt _ ((h0 i hi).1))).below hb6
    have H6 := below_then H5 hb6
    go_wp2_with (fail)
    refine (same_true _ a6 n0 _ _ (fun i => Gf.mul (f i) c) _ _ (fun e => by cases e) B6.nil S5 B6 (fun i _ => by rw [Nat.zero_xor])).mono ?_
    rintro e w' ⟨rfl, rfl⟩
    go_wp2_with (fail)
    refine (refmuladd_any a0 a1 n0 c0 c1 c f g hn0 hc _ (h0.below H6) (h1.below H6)).mono ?_
    rintro e w7 ⟨v7, rfl, O7, hb7⟩
    have hfg : ∀ i, i < n0 → f i ^^^ Gf.mul (g i) c < 256 := fun i hi => Gf.xor_lt (h0 i hi).1 (Gf.mul_lt _ ((h1 i hi).1))
    obtain ⟨a7, k7, rfl, B7⟩ := owned_bytes O7 hfg
    have H7 := below_then H6 hb7
    have S2 := ((((((R2.bytes hfg).below hb3).below hb4).below hb5).below hb6).below hb7)
    go_wp2_with (fail)
    refine (same_true _ a7 n0 _ _ _ _ _ (fun e => by cases e) B7.nil S2 B7 (fun i _ => rfl)).mono ?_
    rintro e w' ⟨rfl, rfl⟩
    go_wp2_with (fail)
    refine (refdot_any a0 a1 n0 c0 c1 f g _ rfl hn0 _ (h0.below H7) (h1.below H7)).mono ?_
    rintro e w8 ⟨rfl, hm8⟩
    go_wp2_with (fail)
    go_ret
    exact ⟨rfl, below_then H7 (drewN_below hm8)⟩
  · have hd : ¬ (n0 : Int) = (n1 : Int) := by omega
    go_enter Try.func5, Try.ntmps5
    go_wp2_with (fail)
    refine (awake_any _).mono ?_
    rintro e w1 ⟨rfl, hb1⟩
    go_wp2_with (fail)
    refine (muladd_len _ _ _ _ _ _ _ hne _).mono ?_
    rintro e w' ⟨rfl, rfl⟩
    go_wp2_with (fail)
    refine (dot_len _ _ _ _ _ _ hne _).mono ?_
    rintro e w' ⟨rfl, rfl⟩
    go_wp2_with (fail)
    have B1 := h0.below hb1
    have hb2 := hb1.alloc hb1.size (.cells (fillA (fun _ => 0) n0 0) 5)
    have Z := (zero_row w1 n0).bytes (fun _ _ => by decide)
    refine (scale_any a0 n0 c0 c f hn0 hc _ (h0.below hb2)).mono ?_
    rintro e w3 ⟨rfl, R3, hb3⟩
    rw [World.size_alloc] at R3
    go_wp2_with (fail)
    refine (refmuladd_any _ a0 n0 _ c0 c (fun _ => 0) f hn0 hc _ (Z.below hb3) ((h0.below hb2).below hb3)).mono ?_
    rintro e w4 ⟨v4, rfl, O4, hb4⟩
    obtain ⟨a4, k4, rfl, B4⟩ := owned_bytes O4 (fun i hi => by rw [Nat.zero_xor]; exact Gf.mul_lt _ ((h0 i hi).1))
    go_wp2_with (fail)
    have S3 := (R3.bytes (fun i hi => Gf.mul_lt _ ((h0 i hi).1))).below hb4
    refine (same_true _ a4 n0 _ _ (fun i => Gf.mul (f i) c) _ _ (fun e => by cases e) B4.nil S3 B4 (fun i _ => by rw [Nat.zero_xor])).mono ?_
    rintro e w' ⟨rfl, rfl⟩
    go_wp2_with (fail)
    go_ret
    exact ⟨rfl, below_then (below_then hb2 hb3) hb4⟩
end Go.Proofs.Ytjcpcankgimlnaa
