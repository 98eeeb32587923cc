import Derived.Test.YtfdbdhknamkipaaEnc
namespace Go.Proofs.Ytfdbdhknamkipaa.En
/-- how many bits a number has -/
def bl (n : Nat) : Nat := if n = 0 then 0 else Nat.log2 n + 1
theorem bl_div (n s : Nat) (h : 2 ^ s ≤ n) : bl n = bl (n / 2 ^ s) + s := by
  have hp := Nat.two_pow_pos s
  have hn : n ≠ 0 := by omega
  have hd : n / 2 ^ s ≠ 0 := by
    have : 1 ≤ n / 2 ^ s := (Nat.le_div_iff_mul_le hp).2 (by omega)
    omega
  unfold bl
  rw [if_neg hn, if_neg hd]
  have h1 := (Nat.log2_eq_iff hd).1 rfl
  have : Nat.log2 n = Nat.log2 (n / 2 ^ s) + s := by
    rw [Nat.log2_eq_iff hn]
    constructor
    · rw [Nat.pow_add]; exact Nat.le_trans (Nat.mul_le_mul_right _ h1.1) (Nat.div_mul_le_self _ _)
    · rw [show Nat.log2 (n / 2 ^ s) + s + 1 = (Nat.log2 (n / 2 ^ s) + 1) + s by omega, Nat.pow_add]
      exact (Nat.div_lt_iff_lt_mul hp).1 h1.2
  omega
theorem bl_le {n k : Nat} (h : n < 2 ^ k) : bl n ≤ k := by
  unfold bl
  split
  · omega
  · rename_i hn
    have := (Nat.log2_lt hn).2 h
    omega
theorem bl_small {n : Nat} (h : n < 128) : bl n ≤ 7 := bl_le (k := 7) h
theorem encF_bl (f : Nat) : ∀ n, n < 2 ^ (7 * (f + 1)) → (encF f n).length = max 1 ((bl n + 6) / 7) := by
  induction f with
  | zero =>
    intro n h
    have := bl_small (n := n) (by simpa using h)
    simp [encF]; omega
  | succ f ih =>
    intro n h
    by_cases hn : n < 128
    · rw [encF_last _ _ hn]
      have := bl_small hn
      simp; omega
    · rw [encF_step _ _ (by omega)]
      have h2 : n / 128 < 2 ^ (7 * (f + 1)) := by
        rw [Nat.div_lt_iff_lt_mul (by decide)]
        rw [show 7 * (f + 1 + 1) = 7 * (f + 1) + 7 by omega, Nat.pow_add] at h
        exact h
      have hb := bl_div n 7 (by omega)
      rw [show (2 : Nat) ^ 7 = 128 by decide] at hb
      have := ih _ h2
      have h1 : 1 ≤ bl (n / 128) := by
        unfold bl; rw [if_neg (by omega)]; omega
      simp only [List.length_cons]
      omega
theorem enc_bl {n : Nat} (h : n < 2 ^ 64) : (enc n).length = max 1 ((bl n + 6) / 7) := encF_bl 9 n (Nat.lt_of_lt_of_le h (by decide))
end Go.Proofs.Ytfdbdhknamkipaa.En
