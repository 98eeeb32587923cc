import Derived.Test.YtneiglhcfgnclaaDoorRo8
import Derived.Shelf.Spec.TrailingZeros
namespace Go.Proofs.YtneiglhcfgnclaaDoor
open Go.RowKit
/-- what the package-level variable holds -/
structure LaidZ (w : World) : Prop where
  two : 0 + 1 ≤ w.heap.size
  k : ∀ i, i < 64 → w.cell? ⟨0, i, none⟩ = some (.int .u8 (Lib.deBruijn64tab.getD i 0 : Nat))
theorem LaidZ.below {B : Nat} {w w1 : World} (h : LaidZ w) (hb : Below B w w1) (hB : 0 + 1 ≤ B) : LaidZ w1 :=
  ⟨Nat.le_trans h.two hb.size, fun i hi => (hb.cell (p := ⟨0, i, none⟩) (by show 0 < B; omega)).trans (h.k i hi)⟩
set_option maxRecDepth 100000 in
set_option maxHeartbeats 1000000 in
theorem tz_core (x k idx : Nat) (w : World) (hx0 : ((x : Int) == 0) = false)
    (key : IntKind.u64.wrap (bits BinOp.and IntKind.u64 (x : Int) (IntKind.u64.wrap (-(x : Int))) * 285870213051353865) / 288230376151711744 = (idx : Int))
    (hi : idx < 64) (hk : k < 64) (hcell : w.cell? ⟨0, idx, none⟩ = some (.int .u8 k)) :
    Calls Tryd.prog 29 #[.int .u64 x] w fun e w' => e = .returned (.int .i64 k) ∧ w = w' := by
  go_enter Tryd.func29, Tryd.ntmps29
  go_wp2_with (simp only [key])
  go_ret
  exact ⟨rfl, rfl⟩
theorem tz_any (x : Nat) (hx : x < 18446744073709551616) (w : World) (hL : LaidZ w) :
    Calls Tryd.prog 29 #[.int .u64 x] w fun e w' => e = .returned (.int .i64 (Lib.ctz 64 x)) ∧ w = w' := by
  by_cases hx0 : x = 0
  · subst hx0
    go_enter Tryd.func29, Tryd.ntmps29
    go_wp2
    go_ret
    exact ⟨rfl, rfl⟩
  · obtain ⟨hlow, hk⟩ := Lib.lowest_bit 64 x hx0 hx
    obtain ⟨hi, htab⟩ := Lib.deBruijn64_at _ hk
    have hcell := hL.k _ hi
    rw [htab] at hcell
    exact tz_core x _ _ w (by simp; omega) (tz64_key x _ hx hx0 hlow) hi hk hcell
theorem zeros_any (x : Nat) (hx : x < 18446744073709551616) (w : World) (hL : LaidZ w) :
    Calls Tryd.prog 25 #[.int .u64 x] w fun e w' => e = .returned (.int .i64 (Lib.ctz 64 x)) ∧ w = w' := by
  obtain ⟨z, hz⟩ : ∃ z, Hid (Lib.ctz 64 x = z) := ⟨_, rfl⟩
  go_enter Tryd.func25, Tryd.ntmps25
  go_wp2_with (fail)
  refine (tz_any x hx _ hL).mono ?_
  rintro e w1 ⟨rfl, rfl⟩
  rw [hz.out]
  go_wp2_with (fail)
  go_ret
  exact ⟨by rw [hz.out]; rfl, rfl⟩
theorem and_one (m : Nat) (hm : m < 18446744073709551616) : bits BinOp.and IntKind.u64 (m : Int) 1 = ((m % 2 : Nat) : Int) := by
  have := u64_and_nat m 1 hm (by decide)
  rw [show (1 : Int) = ((1 : Nat) : Int) from rfl, this, Nat.and_one_is_mod]
theorem ctzFrom_char : ∀ (f n x : Nat), n ≤ f → (∀ j, j < n → x / 2 ^ j % 2 = 0) → (n = f ∨ x / 2 ^ n % 2 ≠ 0) → Lib.ctzFrom f x = n
  | 0, n, _, hn, _, _ => by rw [Lib.ctzFrom]; omega
  | f + 1, 0, x, _, _, h2 => by
    rw [Lib.ctzFrom]
    rw [Nat.pow_zero, Nat.div_one] at h2
    rw [if_pos (by omega)]
  | f + 1, n + 1, x, hn, h, h2 => by
    rw [Lib.ctzFrom]
    have h0 := h 0 (by omega)
    rw [Nat.pow_zero, Nat.div_one] at h0
    have e : ∀ j, x / 2 / 2 ^ j = x / 2 ^ (j + 1) := fun j => by rw [Nat.div_div_eq_div_mul, Nat.pow_succ, Nat.mul_comm]
    have h3 : n = f ∨ x / 2 / 2 ^ n % 2 ≠ 0 := by
      rw [e]
      rcases h2 with h2 | h2
      · exact Or.inl (by omega)
      · exact Or.inr h2
    rw [if_neg (by omega), ctzFrom_char f n (x / 2) (by omega) (fun j hj => by rw [e]; exact h (j + 1) (by omega)) h3, Nat.add_comm]
/-- the number of zero bits at the low end -/
theorem ctz_char {x n : Nat} (h : ∀ j, j < n → x / 2 ^ j % 2 = 0) (h2 : n = 64 ∨ x / 2 ^ n % 2 ≠ 0) (hn : n ≤ 64) : Lib.ctz 64 x = n := by
  unfold Lib.ctz
  split
  · rename_i h0
    subst h0
    rcases h2 with h2 | h2
    · exact h2.symm
    · rw [Nat.zero_div] at h2; exact absurd rfl h2
  · exact ctzFrom_char 64 n x hn h h2
set_option maxRecDepth 100000 in
theorem refzeros_any (x : Nat) (hx : x < 18446744073709551616) (w : World) :
    Calls Tryd.prog 26 #[.int .u64 x] w fun e w' => e = .returned (.int .i64 (Lib.ctz 64 x)) ∧ w = w' := by
  go_enter Tryd.func26, Tryd.ntmps26
  go_wp2
  go_loopw [3] (fun i wr => ∃ n : Nat, n ≤ 64 ∧ i = .int .i64 n ∧ Hid (∀ j, j < n → x / 2 ^ j % 2 = 0) ∧ wr = w) (fun i _ => 64 - (intOf i).toNat)
  case atStart => exact ⟨0, by omega, rfl, fun j hj => absurd hj (Nat.not_lt_zero _), rfl⟩
  case round =>
    obtain ⟨n, hn, rfl, hj, rfl⟩ := hrel
    by_cases hlt : n < 64
    · have hx2 : x / 2 ^ n < 18446744073709551616 := Nat.lt_of_le_of_lt (Nat.div_le_self _ _) hx
      have ha := and_one _ hx2
      have e1 : (x : Int) / 2 ^ n = ((x / 2 ^ n : Nat) : Int) := by rw [Int.natCast_ediv, Int.natCast_pow]; rfl
      obtain ⟨q, hq⟩ : ∃ q, Hid (x / 2 ^ n = q) := ⟨_, rfl⟩
      rw [hq.out] at ha e1
      by_cases hb : q % 2 = 0
      · have hz : ((q % 2 : Nat) : Int) = 0 := by omega
        rw [hz] at ha
        have hj2 : Hid (∀ j, j < n + 1 → x / 2 ^ j % 2 = 0) := fun j hjl => by
          by_cases e : j = n
          · subst e; rw [hq.out]; exact hb
          · exact hj.out j (by omega)
        go_wp2
        go_roundw
        case rel => exact ⟨n + 1, by omega, by go_num, hj2, trivial⟩
        case measure => simp [intOf]; omega
      · have hz : ((q % 2 : Nat) : Int) = 1 := by omega
        rw [hz] at ha
        have hc := hidIt (ctz_char hj.out (Or.inr (by rw [hq.out]; exact hb)) hn)
        go_wp2
        go_ret
        exact ⟨by rw [hc.out]; rfl, rfl⟩
    · obtain rfl : n = 64 := by omega
      have hc := hidIt (ctz_char hj.out (Or.inl rfl) hn)
      go_wp2
      go_ret
      exact ⟨by rw [hc.out]; rfl, rfl⟩
end Go.Proofs.YtneiglhcfgnclaaDoor
