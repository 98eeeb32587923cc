import Derived.Test.YtfdbdhknamkipaaEnc
namespace Go.Proofs.Ytfdbdhknamkipaa.En
theorem pow7 (i : Nat) : 2 ^ (7 * (i + 1)) = 128 * 2 ^ (7 * i) := by rw [Nat.mul_add, Nat.pow_add, Nat.mul_comm]
theorem split128 (n P : Nat) : (n % 128) * P + (n / 128) * (128 * P) = n * P := by
  have h : n = n % 128 + 128 * (n / 128) := by omega
  conv => rhs; rw [h]
  rw [Nat.add_mul, Nat.mul_right_comm, Nat.mul_comm (128 * P) (n / 128), Nat.mul_comm 128 P, Nat.mul_comm (n / 128) (P * 128)] <;> try rfl
  try rw [Nat.mul_comm 128 P]
/-- a number's encoding is read as the number -/
theorem numF_encF (r : List Nat) : ∀ f i acc n, f + i = 9 → n * 2 ^ (7 * i) < 2 ^ 64 → (0 < i → n ≠ 0) → numF (f + 1) i acc (encF f n ++ r) = some (acc + n * 2 ^ (7 * i), i + (encF f n).length)
  | 0, i, acc, n, hi, hn, h0 => by
    obtain rfl : i = 9 := by omega
    have h1 : n < 2 := by
      have e : (2 : Nat) ^ 64 = 2 * 2 ^ (7 * 9) := by decide
      rw [e] at hn
      exact Nat.lt_of_mul_lt_mul_right hn
    have h2 := h0 (by decide)
    obtain rfl : n = 1 := by omega
    simp [encF, numF]
  | f + 1, i, acc, n, hi, hn, h0 => by
    by_cases h : n < 128
    · rw [encF_last _ _ h]
      have hm : n % 128 = n := Nat.mod_eq_of_lt h
      show numF (f + 1 + 1) i acc (n :: r) = _
      unfold numF
      rw [hm, if_neg (by omega), if_pos h]
      rw [if_neg (fun hh => h0 hh.2 hh.1)]
      rfl
    · rw [encF_step _ _ (by omega)]
      show numF (f + 1 + 1) i acc ((n % 128 + 128) :: (encF f (n / 128) ++ r)) = _
      unfold numF
      have hb : (n % 128 + 128) % 128 = n % 128 := by omega
      have hs := split128 n (2 ^ (7 * i))
      rw [hb, if_neg (by have : n % 128 * 2 ^ (7 * i) ≤ n * 2 ^ (7 * i) := Nat.mul_le_mul_right _ (Nat.mod_le _ _); omega), if_neg (by omega)]
      rw [numF_encF r f (i + 1) _ (n / 128) (by omega) (by rw [pow7]; omega) (by omega), pow7]
      rw [Nat.add_assoc, hs, List.length_cons]
      congr 2
      omega
theorem num_enc {n : Nat} (r : List Nat) (h : n < 18446744073709551616) : num (enc n ++ r) = some (n, (enc n).length) := by
  have := numF_encF r 9 0 0 n rfl (by simpa using h) (by omega)
  unfold num enc
  simpa using this
/-- what is read as a number begins with the number's encoding -/
theorem encF_numF : ∀ f i acc l n k, f + i = 9 → acc < 2 ^ (7 * i) → (∀ x ∈ l, x < 256) → numF (f + 1) i acc l = some (n, k) →
    ∃ m, n = acc + m * 2 ^ (7 * i) ∧ m * 2 ^ (7 * i) + 2 ^ (7 * i) ≤ 2 ^ 64 ∧ (0 < i → m ≠ 0) ∧ i < k ∧ encF f m = l.take (k - i)
  | f, i, acc, [], n, k, _, _, _, h => by rw [numF_nil] at h; cases h
  | f, i, acc, b :: rest, n, k, hi, ha, hl, h => by
    have hb : b < 256 := hl b (List.mem_cons_self ..)
    unfold numF at h
    split at h
    · cases h
    rename_i hP
    have h64 : (2 : Nat) ^ 64 = 2 ^ (64 - 7 * i) * 2 ^ (7 * i) := by rw [← Nat.pow_add]; congr 1; omega
    by_cases hlt : b < 128
    · rw [if_pos hlt] at h
      have hm : b % 128 = b := Nat.mod_eq_of_lt hlt
      rw [hm] at h hP
      split at h
      · cases h
      rename_i hz
      simp only [Option.some.injEq, Prod.mk.injEq] at h
      obtain ⟨rfl, rfl⟩ := h
      refine ⟨b, rfl, ?_, fun h0 e => hz ⟨e, h0⟩, by omega, ?_⟩
      · have h1 : b * 2 ^ (7 * i) < 2 ^ (64 - 7 * i) * 2 ^ (7 * i) := by rw [← h64]; omega
        have h2 := Nat.lt_of_mul_lt_mul_right h1
        have h3 : (b + 1) * 2 ^ (7 * i) ≤ 2 ^ (64 - 7 * i) * 2 ^ (7 * i) := Nat.mul_le_mul_right _ h2
        rw [← h64, Nat.succ_mul] at h3
        exact h3
      · rw [encF_last _ _ hlt, show i + 1 - i = 1 by omega]; rfl
    · rw [if_neg hlt] at h
      match f, hi, h with
      | 0, _, h => simp [numF] at h
      | f + 1, hi, h =>
        have hmod : b % 128 + 128 = b := by omega
        have ha2 : acc + b % 128 * 2 ^ (7 * i) < 2 ^ (7 * (i + 1)) := by
          rw [pow7]
          have : b % 128 * 2 ^ (7 * i) + 2 ^ (7 * i) ≤ 128 * 2 ^ (7 * i) := by
            rw [← Nat.succ_mul]; exact Nat.mul_le_mul_right _ (by omega)
          omega
        obtain ⟨m, h1, h2, h3, h4, h5⟩ := encF_numF f (i + 1) _ rest n k (by omega) ha2 (fun x hx => hl x (List.mem_cons_of_mem _ hx)) h
        have hm0 := h3 (by omega)
        have hs := split128 (b % 128 + 128 * m) (2 ^ (7 * i))
        have e1 : (b % 128 + 128 * m) % 128 = b % 128 := by omega
        have e2 : (b % 128 + 128 * m) / 128 = m := by omega
        rw [e1, e2] at hs
        rw [pow7] at h1 h2
        refine ⟨b % 128 + 128 * m, by omega, ?_, by omega, by omega, ?_⟩
        · have : b % 128 * 2 ^ (7 * i) + 2 ^ (7 * i) ≤ 128 * 2 ^ (7 * i) := by
            rw [← Nat.succ_mul]; exact Nat.mul_le_mul_right _ (by omega)
          omega
        · rw [encF_step _ _ (by omega), e1, e2, hmod, h5]
          obtain ⟨d, hd⟩ : ∃ d, k - i = d + 1 := ⟨k - i - 1, by omega⟩
          rw [hd, show k - (i + 1) = d by omega]
          rfl
theorem enc_num {l : List Nat} {n k : Nat} (hl : ∀ x ∈ l, x < 256) (h : num l = some (n, k)) : n < 18446744073709551616 ∧ enc n = l.take k := by
  obtain ⟨m, h1, h2, _, _, h5⟩ := encF_numF 9 0 0 l n k rfl (by decide) hl h
  simp at h1 h2 h5
  subst h1
  exact ⟨by omega, h5⟩
/-- encodings of numbers part at their ends -/
theorem enc_part {n m : Nat} {r s : List Nat} (hn : n < 18446744073709551616) (hm : m < 18446744073709551616) (h : enc n ++ r = enc m ++ s) : n = m ∧ r = s := by
  have h1 := num_enc r hn
  have h2 := num_enc s hm
  rw [h, h2] at h1
  simp only [Option.some.injEq, Prod.mk.injEq] at h1
  obtain ⟨rfl, _⟩ := h1
  exact ⟨rfl, List.append_cancel_left h⟩
end Go.Proofs.Ytfdbdhknamkipaa.En
