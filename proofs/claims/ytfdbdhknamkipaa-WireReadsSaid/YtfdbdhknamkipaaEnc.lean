namespace Go.Proofs.Ytfdbdhknamkipaa.En
/-- the encoding of a number, with fuel -/
def encF : Nat → Nat → List Nat
  | 0, n => [n % 128]
  | f + 1, n => if n < 128 then [n] else (n % 128 + 128) :: encF f (n / 128)
def enc (n : Nat) : List Nat := encF 9 n
theorem encF_lt (f : Nat) : ∀ n b, b ∈ encF f n → b < 256 := by
  induction f with
  | zero => intro n b hb; simp [encF] at hb; omega
  | succ f ih =>
    intro n b hb
    unfold encF at hb
    split at hb
    · simp at hb; omega
    · rcases List.mem_cons.1 hb with h | h
      · omega
      · exact ih _ _ h
theorem encF_len (f : Nat) : ∀ n, 1 ≤ (encF f n).length ∧ (encF f n).length ≤ f + 1 := by
  induction f with
  | zero => intro n; simp [encF]
  | succ f ih =>
    intro n
    unfold encF
    split
    · simp
    · have := ih (n / 128); simp; omega
theorem enc_len (n : Nat) : 1 ≤ (enc n).length ∧ (enc n).length ≤ 10 := encF_len 9 n
theorem enc_lt {n b : Nat} (h : b ∈ enc n) : b < 256 := encF_lt 9 n b h
theorem encF_step (f n : Nat) (h : 128 ≤ n) : encF (f + 1) n = (n % 128 + 128) :: encF f (n / 128) := by
  rw [encF, if_neg (by omega)]
theorem encF_last (f n : Nat) (h : n < 128) : encF f n = [n] := by
  cases f with
  | zero => simp [encF]; omega
  | succ f => rw [encF, if_pos h]
/-- the number whose encoding begins here, and how many bytes it has; f bytes more may come, i have been read -/
def numF : Nat → Nat → Nat → List Nat → Option (Nat × Nat)
  | 0, _, _, _ => none
  | _ + 1, _, _, [] => none
  | f + 1, i, acc, b :: rest =>
    if 2 ^ 64 ≤ (b % 128) * 2 ^ (7 * i) then none
    else if b < 128 then (if b % 128 = 0 ∧ 0 < i then none else some (acc + (b % 128) * 2 ^ (7 * i), i + 1))
    else numF f (i + 1) (acc + (b % 128) * 2 ^ (7 * i)) rest
def num (l : List Nat) : Option (Nat × Nat) := numF 10 0 0 l
theorem numF_nil (f i acc : Nat) : numF f i acc [] = none := by cases f <;> rfl
theorem numF_bd (f : Nat) : ∀ i acc l n k, numF f i acc l = some (n, k) → i < k ∧ k ≤ i + l.length ∧ k ≤ i + f := by
  induction f with
  | zero => intro i acc l n k h; simp [numF] at h
  | succ f ih =>
    intro i acc l n k h
    cases l with
    | nil => simp [numF] at h
    | cons b rest =>
      unfold numF at h
      split at h
      · cases h
      · split at h
        · split at h
          · cases h
          · simp at h; simp; omega
        · have := ih _ _ _ _ _ h; simp; omega
theorem num_bd {l : List Nat} {n k : Nat} (h : num l = some (n, k)) : 0 < k ∧ k ≤ l.length := by
  have := numF_bd 10 0 0 l n k h; omega
theorem shift_back {b s : Nat} (hs : s ≤ 63) : (b * 2 ^ s % 2 ^ 64) / 2 ^ s = b % 2 ^ (64 - s) := by
  have : (2 : Nat) ^ 64 = 2 ^ (64 - s) * 2 ^ s := by rw [← Nat.pow_add]; congr 1; omega
  rw [this, Nat.mul_mod_mul_right, Nat.mul_div_cancel _ (Nat.two_pow_pos s)]
theorem shift_fits {b s : Nat} (hs : s ≤ 63) : (b * 2 ^ s % 2 ^ 64) / 2 ^ s = b ↔ b * 2 ^ s < 2 ^ 64 := by
  rw [shift_back hs]
  have h : (2 : Nat) ^ 64 = 2 ^ (64 - s) * 2 ^ s := by rw [← Nat.pow_add]; congr 1; omega
  rw [h]
  constructor
  · intro e
    have : b < 2 ^ (64 - s) := by rw [← e]; exact Nat.mod_lt _ (Nat.two_pow_pos _)
    exact Nat.mul_lt_mul_of_pos_right this (Nat.two_pow_pos s)
  · intro e
    exact Nat.mod_eq_of_lt (Nat.lt_of_mul_lt_mul_right e)
theorem or_add {acc b s : Nat} (h : acc < 2 ^ s) : acc ||| b * 2 ^ s = acc + b * 2 ^ s := by
  rw [Nat.or_comm, Nat.mul_comm, ← Nat.two_pow_add_eq_or_of_lt h]
  omega
end Go.Proofs.Ytfdbdhknamkipaa.En
