import Derived.Test.YtcnjcfmgkkghjaaRefT
namespace Go.Proofs.Ytcnjcfmgkkghjaa
open Go.RowKit
theorem dblA : ∀ a : Fin 128, ((a.val : Int) * 2 % 256) = (Gf.X a.val : Int) := by decide +kernel
theorem dblB : ∀ a : Fin 256, 128 ≤ a.val → bits BinOp.xor IntKind.u8 ((a.val : Int) * 2 % 256) 29 = (Gf.X a.val : Int) := by decide +kernel
set_option maxRecDepth 100000 in
theorem refmul_any (a b : Nat) (ha : a < 256) (hb : b < 256) (w : World) :
    Calls Try.prog 41 #[.int .u8 a, .int .u8 b] w fun e w' => e = .returned (.int .u8 (Gf.mul a b)) ∧ w = w' := by
  go_enter Try.func41, Try.ntmps41
  go_wp2
  go_loop [5, 0, 1, 6] (fun p x y _ => ∃ n pv xv yv : Nat, yv < 2 ^ n ∧ yv < 256 ∧ pv < 256 ∧ xv < 256 ∧ p = .int .u8 pv ∧ x = .int .u8 xv ∧ y = .int .u8 yv ∧ Hid (pv ^^^ Gf.gm n xv yv = Gf.mul a b)) (fun _ _ y _ => (intOf y).toNat)
  case atStart => exact ⟨8, 0, a, b, hb, hb, by omega, ha, rfl, rfl, rfl, (by simp [Gf.mul] : _ = _)⟩
  case round =>
    obtain ⟨n, pv, xv, yv, hy, hy8, hp, hx, rfl, rfl, rfl, hrel⟩ := hrel
    by_cases h0 : yv = 0
    · subst h0
      go_wp2
      go_ret
      exact ⟨ret_u8 (by have := hrel.out; rw [Gf.gm_zero_right] at this; simp at this; omega), rfl⟩
    · obtain ⟨m, rfl⟩ : ∃ m, n = m + 1 := ⟨n - 1, by cases n <;> simp_all⟩
      have hne : ((yv : Int) != 0) = true := by simp; omega
      by_cases hodd : yv % 2 = 1
      · have hr : Hid ((pv ^^^ xv) ^^^ Gf.gm m (Gf.X xv) (yv / 2) = Gf.mul a b) := by
          show _ = _
          rw [← hrel.out, Gf.gm_step, if_pos hodd, Nat.xor_assoc]
        have ho : ((yv : Int) % 2 == 1) = true := by simp; omega
        have hz : yv / 2 < 2 ^ m := by rw [Nat.pow_succ] at hy; omega
        clear hodd hrel hy
        by_cases hlt : xv < 128
        · go_wp2
          go_round
          case rel => exact ⟨m, pv ^^^ xv, Gf.X xv, yv / 2, hz, by omega, Gf.xor_lt hp hx, Gf.X_lt hx, by rw [u8_xor_nat _ _ hp hx], by have := dblA ⟨xv, hlt⟩; simp only at this; rw [← this]; congr 1; omega, by simp, hr⟩
          case measure => simp [intOf]; omega
        · go_wp2
          go_round
          case rel => exact ⟨m, pv ^^^ xv, Gf.X xv, yv / 2, hz, by omega, Gf.xor_lt hp hx, Gf.X_lt hx, by rw [u8_xor_nat _ _ hp hx], by have := dblB ⟨xv, hx⟩ (by simpa using hlt); simp only at this; rw [← this], by simp, hr⟩
          case measure => simp [intOf]; omega
      · have hr : Hid (pv ^^^ Gf.gm m (Gf.X xv) (yv / 2) = Gf.mul a b) := by
          show _ = _
          rw [← hrel.out, Gf.gm_step, if_neg hodd, Nat.zero_xor]
        have ho : ((yv : Int) % 2 == 1) = false := by simp; omega
        have hz : yv / 2 < 2 ^ m := by rw [Nat.pow_succ] at hy; omega
        clear hodd hrel hy
        by_cases hlt : xv < 128
        · go_wp2
          go_round
          case rel => exact ⟨m, pv, Gf.X xv, yv / 2, hz, by omega, hp, Gf.X_lt hx, rfl, by have := dblA ⟨xv, hlt⟩; simp only at this; rw [← this]; congr 1; omega, by simp, hr⟩
          case measure => simp [intOf]; omega
        · go_wp2
          go_round
          case rel => exact ⟨m, pv, Gf.X xv, yv / 2, hz, by omega, hp, Gf.X_lt hx, rfl, by have := dblB ⟨xv, hx⟩ (by simpa using hlt); simp only at this; rw [← this], by simp, hr⟩
          case measure => simp [intOf]; omega
theorem refdeg_any (a : Option Addr) (n c : Nat) (xs : List Nat) (hx : ∀ i, xs.getD i 0 < 256) (hbig : n ≤ 100000) (w : World) (h : Rd w a n c xs) :
    Calls Try.prog 19 #[.slice a n c] w fun e w' => e = .returned (.int .i64 ((Pl.d1 xs : Int) - 1)) ∧ Below w.heap.size w w' := by
  have hr := hidIt h
  have x2 := hidIt hx
  obtain ⟨d, hd⟩ : ∃ d, Hid (Pl.d1 xs = d) := ⟨_, rfl⟩
  have hdb : d ≤ 100000 := by have := hd.out; have := Pl.d1_le xs; have := h.len; omega
  rw [hd.out]
  clear h hx
  go_enter Try.func19, Try.ntmps19
  go_wp2_with (fail)
  refine (reftrim_any _ _ _ xs x2.out hbig _ hr.out).mono ?_
  rintro e w' ⟨⟨a', m', c', rfl, hrd⟩, hb⟩
  obtain rfl : m' = d := by rw [hrd.len, Pl.trim_len, hd.out]
  have hb' := hidIt hb
  clear hrd hb
  go_wp2
  go_ret
  exact ⟨rfl, hb'.out⟩
theorem refat_any (a : Option Addr) (n c i : Nat) (xs : List Nat) (w : World) (h : Rd w a n c xs) (v : Nat) (hv : Pl.co xs i = v) :
    Calls Try.prog 57 #[.slice a n c, .int .i64 (i : Int)] w fun e w' => e = .returned (.int .u8 (v : Int)) ∧ w = w' := by
  have hl := hidIt h.len
  have hb := hidIt h.bytes
  have hv' := hidIt hv
  clear h hv
  go_enter Try.func57, Try.ntmps57
  by_cases hlt : i < n
  · obtain ⟨b, off, rfl, e1⟩ := hb.out i (by rw [← hl.out]; exact hlt)
    rw [show xs.getD i 0 = v from hv'.out] at e1
    have e2 : (i : Int) < (n : Int) := by omega
    go_wp2
    go_ret
    exact ⟨rfl, rfl⟩
  · have e2 : (n : Int) ≤ (i : Int) := by omega
    have hv0 : v = 0 := by rw [← hv'.out]; exact Pl.co_out (by have := hl.out; omega)
    subst hv0
    go_wp2
    go_ret
    exact ⟨rfl, rfl⟩
end Go.Proofs.Ytcnjcfmgkkghjaa
