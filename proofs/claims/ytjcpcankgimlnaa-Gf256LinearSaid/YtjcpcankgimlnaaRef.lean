import Derived.Test.YtjcpcankgimlnaaLawsB
import Derived.Test.YtjcpcankgimlnaaGf2
namespace Go.Proofs.Ytjcpcankgimlnaa
open Go.RowKit
set_option maxRecDepth 100000 in
theorem refmul_any (a b : Nat) (ha : a < 256) (hb : b < 256) (w : World) :
    Calls Try.prog 16 #[.int .u8 a, .int .u8 b] w fun e w' => e = .returned (.int .u8 (Gf.mul a b)) ∧ w = w' := by
  go_enter Try.func16, Try.ntmps16
  go_wp2
  go_loop [5, 0, 1, 6] (fun p x y _ => ∃ n pv xv yv : Nat, yv < 2 ^ n ∧ yv < 256 ∧ pv < 256 ∧ xv < 256 ∧ p = .int .u8 pv ∧ x = .int .u8 xv ∧ y = .int .u8 yv ∧ Hid (pv ^^^ Gf.gm n xv yv = Gf.mul a b)) (fun _ _ y _ => (intOf y).toNat)
  case atStart => exact ⟨8, 0, a, b, hb, hb, by omega, ha, rfl, rfl, rfl, (by simp [Gf.mul] : _ = _)⟩
  case round =>
    obtain ⟨n, pv, xv, yv, hy, hy8, hp, hx, rfl, rfl, rfl, hrel⟩ := hrel
    by_cases h0 : yv = 0
    · subst h0
      go_wp2
      go_ret
      exact ⟨ret_u8 (by have := hrel.out; rw [Gf.gm_zero_right] at this; simp at this; omega), rfl⟩
    · obtain ⟨m, rfl⟩ : ∃ m, n = m + 1 := ⟨n - 1, by cases n <;> simp_all⟩
      have hne : ((yv : Int) != 0) = true := by simp; omega
      by_cases hodd : yv % 2 = 1
      · have hr : Hid ((pv ^^^ xv) ^^^ Gf.gm m (Gf.X xv) (yv / 2) = Gf.mul a b) := by
          show _ = _
          rw [← hrel.out, Gf.gm_step, if_pos hodd, Nat.xor_assoc]
        have ho : ((yv : Int) % 2 == 1) = true := by simp; omega
        have hz : yv / 2 < 2 ^ m := by rw [Nat.pow_succ] at hy; omega
        clear hodd hrel hy
        by_cases hlt : xv < 128
        · go_wp2
          go_round
          case rel => exact ⟨m, pv ^^^ xv, Gf.X xv, yv / 2, hz, by omega, Gf.xor_lt hp hx, Gf.X_lt hx, by rw [u8_xor_nat _ _ hp hx], by have := dblA ⟨xv, hlt⟩; simp only at this; rw [← this]; congr 1; omega, by simp, hr⟩
          case measure => simp [intOf]; omega
        · go_wp2
          go_round
          case rel => exact ⟨m, pv ^^^ xv, Gf.X xv, yv / 2, hz, by omega, Gf.xor_lt hp hx, Gf.X_lt hx, by rw [u8_xor_nat _ _ hp hx], by have := dblB ⟨xv, hx⟩ (by simpa using hlt); simp only at this; rw [← this], by simp, hr⟩
          case measure => simp [intOf]; omega
      · have hr : Hid (pv ^^^ Gf.gm m (Gf.X xv) (yv / 2) = Gf.mul a b) := by
          show _ = _
          rw [← hrel.out, Gf.gm_step, if_neg hodd, Nat.zero_xor]
        have ho : ((yv : Int) % 2 == 1) = false := by simp; omega
        have hz : yv / 2 < 2 ^ m := by rw [Nat.pow_succ] at hy; omega
        clear hodd hrel hy
        by_cases hlt : xv < 128
        · go_wp2
          go_round
          case rel => exact ⟨m, pv, Gf.X xv, yv / 2, hz, by omega, hp, Gf.X_lt hx, rfl, by have := dblA ⟨xv, hlt⟩; simp only at this; rw [← this]; congr 1; omega, by simp, hr⟩
          case measure => simp [intOf]; omega
        · go_wp2
          go_round
          case rel => exact ⟨m, pv, Gf.X xv, yv / 2, hz, by omega, hp, Gf.X_lt hx, rfl, by have := dblB ⟨xv, hx⟩ (by simpa using hlt); simp only at this; rw [← this], by simp, hr⟩
          case measure => simp [intOf]; omega
theorem refmul_at {a b : Int} (x y : Nat) (z : Int) (ha : a = x) (hb : b = y) (hx : x < 256) (hy : y < 256) (h : (Gf.mul x y : Int) = z) (w : World) :
    Calls Try.prog 16 #[.int .u8 a, .int .u8 b] w fun e w' => e = .returned (.int .u8 z) ∧ w = w' := by
  subst ha hb h; exact refmul_any x y hx hy w
set_option maxRecDepth 100000 in
theorem refinv_any (a : Nat) (ha : a < 256) (h0 : a ≠ 0) (w : World) :
    Calls Try.prog 17 #[.int .u8 a] w fun e w' => e = .returned (.int .u8 (Gf.inv a)) ∧ w = w' := by
  have hi : Gf.inv a < 256 := Gf.pw_lt a 254
  have hi0 := Gf.inv_ne ha h0
  have H := hidIt (Gf.mul_inv ha h0)
  have U := hidIt (fun b hb h => Gf.inv_unique (b := b) ha h0 hb h)
  clear h0
  go_enter Try.func17, Try.ntmps17
  go_wp2
  go_loop [3] (fun i => ∃ k : Nat, 1 ≤ k ∧ k ≤ Gf.inv a ∧ i = .int .i64 k) (fun i => 256 - (intOf i).toNat)
  case atStart => exact ⟨1, by omega, by omega, rfl⟩
  case round =>
    obtain ⟨k, hk1, hk, rfl⟩ := hrel
    have hk8 : k < 256 := by omega
    by_cases he : Gf.mul a k = 1
    · have hq := hidIt (U.out k hk8 he)
      go_wp2_with (fail)
      refine (refmul_any a k ha hk8 _).mono ?_
      rintro e w' ⟨rfl, rfl⟩
      have he : ((Gf.mul a k : Nat) : Int) = 1 := by omega
      go_wp2_with (fail)
      go_ret
      exact ⟨ret_u8 (by rw [← hq.out]), rfl⟩
    · have hne : (((Gf.mul a k : Nat) : Int) == 1) = false := by simp; omega
      have hlt : k < Gf.inv a := by
        rcases Nat.lt_or_eq_of_le hk with h | h
        · exact h
        · exact absurd (by rw [h]; exact H.out) he
      clear he
      go_wp2_with (go_at_call 16; refine (refmul_any a k ha hk8 _).mono ?_; rintro e w' ⟨rfl, rfl⟩)
      go_round
      case rel => exact ⟨k + 1, by omega, by omega, by go_num⟩
      case measure => simp [intOf]; omega
theorem refpow_zero (n : Int) (c : Int) (h : (if n = 0 then 1 else 0) = c) (w : World) :
    Calls Try.prog 22 #[.int .u8 0, .int .i64 n] w fun e w' => e = .returned (.int .u8 c) ∧ w = w' := by
  by_cases h0 : n = 0
  · subst h0; subst h
    go_enter Try.func22, Try.ntmps22
    go_wp2
    go_ret
    exact ⟨rfl, rfl⟩
  · rw [if_neg h0] at h; subst h
    have hne : (n == 0) = false := by simp; omega
    clear h0
    go_enter Try.func22, Try.ntmps22
    go_wp2
    go_ret
    exact ⟨rfl, rfl⟩
set_option maxRecDepth 100000 in
theorem refpow_pos (a : Nat) (n : Int) (ha : a < 256) (h0 : a ≠ 0) (w : World) :
    Calls Try.prog 22 #[.int .u8 a, .int .i64 n] w fun e w' => e = .returned (.int .u8 (Gf.pw a (Gf.res n))) ∧ w = w' := by
  have ⟨hb1, hb2⟩ := Gf.tmod_bd n
  have hae : ((a : Int) == 0) = false := by simp; omega
  have hr := Gf.res_lt n
  have hq := hidIt (Gf.res_eq2 n)
  clear h0
  go_enter Try.func22, Try.ntmps22
  go_wp2
  rw [hq.out]
  go_loop [5, 1] (fun p i => ∃ k : Nat, k ≤ Gf.res n ∧ i = .int .i64 ((Gf.res n - k : Nat) : Int) ∧ p = .int .u8 (Gf.pw a k)) (fun _ i => (intOf i).toNat)
  case atStart => exact ⟨0, by omega, rfl, rfl⟩
  case round =>
    obtain ⟨k, hk, rfl, rfl⟩ := hrel
    have hl := Gf.pw_lt a k
    by_cases hlt : k < Gf.res n
    · have hz : (0 : Int) < ((Gf.res n - k : Nat) : Int) := by omega
      have hs : Hid (((Gf.res n - k : Nat) : Int) - 1 = ((Gf.res n - (k + 1) : Nat) : Int)) := by show _ = _; omega
      generalize hg : Gf.res n - k = r at *
      have hr3 : r ≤ 255 := by omega
      have hg2 := hidIt hg
      clear hg
      go_wp2_with (go_at_call 16; refine (refmul_any _ _ hl ha _).mono ?_; rintro e w' ⟨rfl, rfl⟩)
      go_round
      case rel => exact ⟨k + 1, by omega, by rw [hs.out], rfl⟩
      case measure => simp [intOf]; omega
    · have hz : ¬ (0 : Int) < ((Gf.res n - k : Nat) : Int) := by omega
      obtain rfl : k = Gf.res n := by omega
      go_wp2
      go_ret
      exact ⟨rfl, rfl⟩
set_option maxRecDepth 100000 in
theorem refsqrt_any (a : Nat) (ha : a < 256) (w : World) :
    Calls Try.prog 24 #[.int .u8 a] w fun e w' => e = .returned (.int .u8 (Gf.sqrt a)) ∧ w = w' := by
  have hi : Gf.sqrt a < 256 := Gf.sq_lt ha 7
  have H := hidIt (Gf.sqrt_mul ha)
  go_enter Try.func24, Try.ntmps24
  go_wp2
  go_loop [3] (fun i => ∃ k : Nat, k ≤ Gf.sqrt a ∧ i = .int .i64 k) (fun i => 256 - (intOf i).toNat)
  case atStart => exact ⟨0, by omega, rfl⟩
  case round =>
    obtain ⟨k, hk, rfl⟩ := hrel
    have hk8 : k < 256 := by omega
    by_cases he : Gf.mul k k = a
    · have hq : Hid (k = Gf.sqrt a) := by show _ = _; rw [← he, Gf.mul_sqrt hk8]
      have he2 := hidIt he
      clear he
      go_wp2_with (fail)
      refine (refmul_at k k (a : Int) rfl rfl hk8 hk8 (by rw [he2.out]) _).mono ?_
      rintro e w' ⟨rfl, rfl⟩
      go_wp2_with (fail)
      go_ret
      exact ⟨ret_u8 (by rw [← hq.out]), rfl⟩
    · have hne : (((Gf.mul k k : Nat) : Int) == (a : Int)) = false := by simp; omega
      have hlt : k < Gf.sqrt a := by
        rcases Nat.lt_or_eq_of_le hk with h | h
        · exact h
        · exact absurd (by rw [h]; exact H.out) he
      clear he
      go_wp2_with (go_at_call 16; refine (refmul_any k k hk8 hk8 _).mono ?_; rintro e w' ⟨rfl, rfl⟩)
      go_round
      case rel => exact ⟨k + 1, by omega, by go_num⟩
      case measure => simp [intOf]; omega
set_option maxRecDepth 100000 in
theorem reflog_any (a : Nat) (ha : a < 256) (h0 : a ≠ 0) (w : World) :
    Calls Try.prog 25 #[.int .u8 a] w fun e w' => e = .returned (.int .i64 (Gf.lg a)) ∧ w = w' := by
  have hl := Gf.lg_lt ha h0
  have H := hidIt (Gf.E_lg ha h0)
  clear h0
  go_enter Try.func25, Try.ntmps25
  go_wp2
  go_loop [3, 4] (fun i x => ∃ k : Nat, k ≤ Gf.lg a ∧ i = .int .i64 k ∧ x = .int .u8 (Gf.E k)) (fun i _ => 256 - (intOf i).toNat)
  case atStart => exact ⟨0, by omega, rfl, rfl⟩
  case round =>
    obtain ⟨k, hk, rfl, rfl⟩ := hrel
    have hE := Gf.E_lt k
    by_cases he : k = Gf.lg a
    · have hq : Gf.E k = a := by rw [he, H.out]
      have he2 := hidIt he
      clear he
      go_wp2
      go_ret
      exact ⟨ret_i64 (by rw [he2.out]), rfl⟩
    · have hq : ((Gf.E k : Int) != (a : Int)) = true := by
        have h1 : Gf.E k ≠ a := fun h => he (Gf.E_inj (by omega) hl (by rw [h, H.out]))
        simp; omega
      have hx : Hid (Gf.mul (Gf.E k) 2 = Gf.E (k + 1)) := by
        show _ = _
        rw [Gf.mul_comm hE (by decide), ← Gf.X_eq_mul hE]; rfl
      go_wp2_with (go_at_call 16; refine (refmul_any (Gf.E k) 2 hE (by decide) _).mono ?_; rintro e w' ⟨rfl, rfl⟩)
      go_round
      case rel => exact ⟨k + 1, by omega, by go_num, by rw [hx.out]⟩
      case measure => simp [intOf]; omega
set_option maxRecDepth 100000 in
theorem reforder_any (a : Nat) (ha : a < 256) (h0 : a ≠ 0) (w : World) :
    Calls Try.prog 26 #[.int .u8 a] w fun e w' => e = .returned (.int .i64 (Gf.order a)) ∧ w = w' := by
  have hl := Gf.order_le a
  have hp := Gf.order_pos a
  have H := hidIt (Gf.pw_order ha h0)
  have U := hidIt (fun n hn h => Gf.order_least (n := n) ha h0 hn h)
  have h1 := hidIt (Gf.one_mul ha)
  clear h0
  go_enter Try.func26, Try.ntmps26
  go_wp2
  go_loop [3, 4] (fun i x => ∃ k : Nat, 1 ≤ k ∧ k ≤ Gf.order a ∧ i = .int .i64 k ∧ x = .int .u8 (Gf.pw a k)) (fun i _ => 256 - (intOf i).toNat)
  case atStart => exact ⟨1, by omega, by omega, rfl, by rw [Gf.pw_one, h1.out]⟩
  case round =>
    obtain ⟨k, hk1, hk, rfl, rfl⟩ := hrel
    have hE := Gf.pw_lt a k
    by_cases he : Gf.pw a k = 1
    · have hq : ((Gf.pw a k : Nat) : Int) = 1 := by rw [he]; rfl
      have hk2 : k = Gf.order a := by have := U.out k hk1 he; omega
      have hk3 := hidIt hk2
      clear he hk2
      go_wp2
      go_ret
      exact ⟨ret_i64 (by rw [hk3.out]), rfl⟩
    · have hq : ((Gf.pw a k : Int) != 1) = true := by simp; omega
      have hlt : k < Gf.order a := by
        rcases Nat.lt_or_eq_of_le hk with h | h
        · exact h
        · exact absurd (by rw [h]; exact H.out) he
      clear he
      go_wp2_with (go_at_call 16; refine (refmul_any _ a hE ha _).mono ?_; rintro e w' ⟨rfl, rfl⟩)
      go_round
      case rel => exact ⟨k + 1, by omega, by omega, by go_num, rfl⟩
      case measure => simp [intOf]; omega
end Go.Proofs.Ytjcpcankgimlnaa
