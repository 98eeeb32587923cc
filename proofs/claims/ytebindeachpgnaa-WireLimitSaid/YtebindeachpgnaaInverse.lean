import Derived.Test.YtebindeachpgnaaUint
import Derived.OpenShut
namespace Go.Proofs.Ytebindeachpgnaa
open Go.RowKit
theorem unzig_zig (k : Int) : unzig (zig k) = k := by unfold unzig zig; split <;> split <;> omega
theorem zig_unzig (n : Nat) : zig (unzig n) = n := by unfold unzig zig; split <;> split <;> omega
theorem bl_pos {m : Nat} (h : 0 < m) : 1 ≤ En.bl m := by unfold En.bl; rw [if_neg (by omega)]; omega
theorem bl_zero : En.bl 0 = 0 := rfl
theorem size_step (m : Nat) (h : 0 < m) : (En.bl m + 6) / 7 = (En.bl (m / 128) + 6) / 7 + 1 := by
  by_cases h1 : 128 ≤ m
  · have := En.bl_div m 7 (by omega)
    rw [show (2 : Nat) ^ 7 = 128 by decide] at this
    omega
  · have h2 := En.bl_small (n := m) (by omega)
    have h3 := bl_pos h
    rw [show m / 128 = 0 by omega, bl_zero]
    omega
theorem nat_u64 {a : Int} (h : (Lit.int .u64 a).wf = true) : ∃ n : Nat, n < 18446744073709551616 ∧ a = n := by
  have := bounds_u64 h
  exact ⟨a.toNat, by omega, by omega⟩
theorem uintSize_at (n : Nat) (z : Int) (h : n < 18446744073709551616) (hz : ((En.enc n).length : Int) = z) (w : World) :
    Calls Try.prog 33 #[.int .u64 n] w fun e w' => e = .returned (.int .i64 z) ∧ w = w' := by
  subst hz; exact uintSize_any n h w
set_option maxHeartbeats 1000000 in
set_option maxRecDepth 100000 in
theorem inverse_walk (a0 a1 : Int) (w0 : (Lit.int .u64 a0).wf = true) (w1 : (Lit.int .i64 a1).wf = true) (w : World) :
    Calls Try.prog 10 #[.int .u64 a0, .int .i64 a1] w fun e w' => e = .returned (.bool true) ∧ Below w.heap.size w w' := by
  obtain ⟨n, hn, rfl⟩ := nat_u64 w0
  have hk := bounds_i64 w1
  have hzl := zig_lt hk.1 hk.2
  have hul : -9223372036854775808 ≤ unzig n ∧ unzig n ≤ 9223372036854775807 := by unfold unzig; split <;> omega
  have E1 := hidIt (unzig_zig a1)
  have E2 := hidIt (zig_unzig n)
  have hlen := hidIt (En.enc_bl (n := n) (by simpa using hn))
  have hlen10 := (En.enc_len n).2
  clear w0 w1
  go_enter Try.func10, Try.ntmps10
  go_wp2_with (fail)
  refine (awake_any _).mono ?_
  rintro e w2 ⟨rfl, hb2⟩
  go_wp2_with (fail)
  refine (zigzag_any a1 hk.1 hk.2 _).mono ?_
  rintro e w' ⟨rfl, rfl⟩
  go_wp2_with (fail)
  refine (unzigzag_any (zig a1) hzl _).mono ?_
  rintro e w' ⟨rfl, rfl⟩
  rw [E1.out]
  go_wp2_with (fail)
  refine (unzigzag_any n hn _).mono ?_
  rintro e w' ⟨rfl, rfl⟩
  go_wp2_with (fail)
  refine (zigzag_any (unzig n) hul.1 hul.2 _).mono ?_
  rintro e w' ⟨rfl, rfl⟩
  rw [E2.out]
  go_wp2_with (fail)
  go_loopw [5, 6] (fun s m wr => ∃ (k q : Nat), s = .int .i64 k ∧ m = .int .u64 q ∧ q < 18446744073709551616 ∧ k ≤ 10 ∧ Hid (k + (En.bl q + 6) / 7 = (En.enc n).length) ∧ wr = w2) (fun _ m _ => (intOf m).toNat)
  case atStart =>
    refine ⟨1, n / 128, rfl, by simp, by omega, by omega, ?_, rfl⟩
    show _ = _
    rw [hlen.out]
    by_cases h0 : 0 < n
    · have := size_step n h0; omega
    · obtain rfl : n = 0 := by omega
      rfl
  case round =>
    obtain ⟨k, q, rfl, rfl, hq, hk10, hrel, rfl⟩ := hrel
    by_cases h0 : 0 < q
    · have hstep := size_step q h0
      have hr := hrel.out
      have hrel2 : Hid (k + 1 + (En.bl (q / 128) + 6) / 7 = (En.enc n).length) := by show _ = _; omega
      have hk2 : k + 1 ≤ 10 := by omega
      clear hrel hr hstep
      go_wp2_with (fail)
      go_roundw
      case rel => exact ⟨k + 1, q / 128, by go_num, by simp, by omega, hk2, hrel2, trivial⟩
      case measure => simp [intOf]; omega
    · obtain rfl : q = 0 := by omega
      have hr := hrel.out
      rw [bl_zero] at hr
      have hr2 := hidIt (show (En.enc n).length = k by omega)
      have hr3 := hidIt (show ((En.enc n).length : Int) = (k : Int) by omega)
      clear hrel hr hlen hlen10
      go_wp2_with (fail)
      refine (uintSize_at n k hn hr3.out _).mono ?_
      rintro e w' ⟨rfl, rfl⟩
      go_wp2_with (fail)
      refine (appendUint_any none 0 n [] hn (by decide) _ (fun i hi => by simp at hi) (fun _ => ⟨rfl, rfl⟩)).mono ?_
      rintro e w3 ⟨a3, cap3, rfl, _, hb3⟩
      rw [show (([] : List Nat) ++ En.enc n).length = k by rw [List.nil_append]; exact hr2.out]
      go_wp2_with (fail)
      go_ret
      exact ⟨rfl, below_then hb2 hb3⟩
end Go.Proofs.Ytebindeachpgnaa
