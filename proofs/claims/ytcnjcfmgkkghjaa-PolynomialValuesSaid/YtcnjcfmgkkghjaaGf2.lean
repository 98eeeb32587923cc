import Derived.Test.YtcnjcfmgkkghjaaGf
namespace Go.Proofs.Ytcnjcfmgkkghjaa.Gf
theorem inv_unique {a b : Nat} (ha : a < 256) (h0 : a ≠ 0) (hb : b < 256) (h : mul a b = 1) : b = inv a := by
  have hi : inv a < 256 := pw_lt a 254
  have h1 : mul (inv a) (mul a b) = inv a := by rw [h, mul_one hi]
  rw [mul_assoc hi ha hb, mul_comm hi ha, mul_inv ha h0, one_mul hb] at h1
  exact h1
theorem zero_ne (b : Nat) : mul 0 b ≠ 1 := by rw [zero_mul]; decide
theorem inv_ne {a : Nat} (ha : a < 256) (h0 : a ≠ 0) : inv a ≠ 0 := by
  intro h
  have := mul_inv ha h0
  rw [h, mul_zero] at this
  exact absurd this (by decide)
theorem zpw_pw {a : Nat} (ha : a < 256) (h0 : a ≠ 0) (n : Int) : pw a (res n) = zpw a n := by
  obtain ⟨i, hi, rfl⟩ := log_ex ha h0
  rw [pw_E, zpw_E i hi]
theorem pw_one (a : Nat) : pw a 1 = mul 1 a := rfl
theorem pw_eq_one {a : Nat} (ha : a < 256) (h0 : a ≠ 0) (n : Nat) : pw a n = 1 ↔ lg a * n % 255 = 0 := by
  obtain ⟨i, hi, rfl⟩ := log_ex ha h0
  rw [pw_E, lg_E hi, ← E_mod]
  constructor
  · intro h
    exact E_inj (Nat.mod_lt _ (by decide)) (by decide) h
  · intro h; rw [h]; rfl
theorem pw_order {a : Nat} (ha : a < 256) (h0 : a ≠ 0) : pw a (order a) = 1 := (pw_eq_one ha h0 _).2 (lg_order a)
theorem order_least {a n : Nat} (ha : a < 256) (h0 : a ≠ 0) (hn : 0 < n) (h : pw a n = 1) : order a ≤ n := by
  have h1 := (pw_eq_one ha h0 n).1 h
  have h2 : 255 ∣ lg a * n := Nat.dvd_of_mod_eq_zero h1
  have hg := gcd_pos (lg a)
  have hc : Nat.Coprime (255 / Nat.gcd 255 (lg a)) (lg a / Nat.gcd 255 (lg a)) := Nat.coprime_div_gcd_div_gcd hg
  have h3 : 255 / Nat.gcd 255 (lg a) ∣ lg a / Nat.gcd 255 (lg a) * n := by
    obtain ⟨q, hq⟩ := Nat.gcd_dvd_right 255 (lg a)
    obtain ⟨r, hr⟩ := gcd_div (lg a)
    obtain ⟨t, ht⟩ := h2
    generalize Nat.gcd 255 (lg a) = g at *
    refine ⟨t, ?_⟩
    have e1 : 255 / g = r := by rw [hr, Nat.mul_div_cancel_left _ hg]
    have e2 : lg a / g = q := by rw [hq, Nat.mul_div_cancel_left _ hg]
    rw [e1, e2]
    apply Nat.eq_of_mul_eq_mul_left hg
    rw [← Nat.mul_assoc, ← hq, ← Nat.mul_assoc, ← hr]
    exact ht
  exact Nat.le_of_dvd hn (Nat.Coprime.dvd_of_dvd_mul_left hc h3)
theorem zpw_add {a : Nat} (ha : a < 256) (h0 : a ≠ 0) (m n : Int) : mul (zpw a m) (zpw a n) = zpw a (m + n) := by
  obtain ⟨i, hi, rfl⟩ := log_ex ha h0
  rw [zpw_E i hi, zpw_E i hi, zpw_E i hi, mul_E, ← Nat.mul_add, ← E_mod (i * (res m + res n)), ← E_mod (i * res (m + n)), Nat.mul_mod i (res m + res n), Nat.mul_mod i (res (m + n))]
  congr 3
  unfold res; omega
theorem zpw_order {a : Nat} : zpw a (order a) = 1 := by
  have h := lg_order a
  have hp := order_pos a
  have hl := order_le a
  unfold zpw
  by_cases h5 : order a = 255
  · rw [h5, show res ((255 : Nat) : Int) = 0 by decide]; rfl
  · rw [show res (order a : Int) = order a by unfold res; omega, h]; rfl
theorem E_res (m n : Int) : mul (E (res m)) (E (res n)) = E (res (m + n)) := by
  rw [mul_E, ← E_mod (res m + res n), ← E_mod (res (m + n))]
  congr 1
  unfold res; omega
theorem E_lt255 {a : Nat} (ha : a < 256) (h0 : a ≠ 0) : E (res (lg a : Int)) = a := by
  have := lg_lt ha h0
  rw [show res (lg a : Int) = lg a by unfold res; omega, E_lg ha h0]
theorem zpw_two (n : Int) : pw 2 (res n) = E (res n) := by
  have h := pw_E 1 (res n)
  rw [show E 1 = 2 by decide, Nat.one_mul] at h
  exact h
end Go.Proofs.Ytcnjcfmgkkghjaa.Gf
