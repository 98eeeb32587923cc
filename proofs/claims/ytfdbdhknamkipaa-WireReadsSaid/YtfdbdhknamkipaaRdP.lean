import Derived.Test.YtfdbdhknamkipaaNumI
namespace Go.Proofs.Ytfdbdhknamkipaa.En
/-- the number whose groups of seven bits are these, the lowest first -/
def dec : List Nat → Nat
  | [] => 0
  | b :: r => b % 128 + 128 * dec r
/-- what is read as a number: its bytes but the last are at least 128, and the number is their groups' -/
theorem numF_first : ∀ f i acc l n k, numF f i acc l = some (n, k) →
    ∃ d, k = i + d + 1 ∧ d < f ∧ d < l.length ∧ (∀ j, j < d → 128 ≤ l.getD j 0) ∧ l.getD d 0 < 128 ∧ n = acc + dec (l.take (d + 1)) * 2 ^ (7 * i)
  | 0, i, acc, l, n, k, h => by simp [numF] at h
  | f + 1, i, acc, [], n, k, h => by rw [numF_nil] at h; cases h
  | f + 1, i, acc, b :: rest, n, k, h => by
    unfold numF at h
    split at h
    · cases h
    by_cases hlt : b < 128
    · rw [if_pos hlt] at h
      split at h
      · cases h
      simp only [Option.some.injEq, Prod.mk.injEq] at h
      obtain ⟨rfl, rfl⟩ := h
      refine ⟨0, rfl, by omega, by simp, fun j hj => absurd hj (Nat.not_lt_zero _), hlt, ?_⟩
      simp [dec]
    · rw [if_neg hlt] at h
      obtain ⟨d, h1, h2, h3, h4, h5, h6⟩ := numF_first f (i + 1) _ rest n k h
      refine ⟨d + 1, by omega, by omega, by simp; omega, ?_, by simpa using h5, ?_⟩
      · intro j hj
        cases j with
        | zero => simp; omega
        | succ j => simpa using h4 j (by omega)
      · rw [h6, pow7]
        show _ = acc + (b % 128 + 128 * dec (rest.take (d + 1))) * 2 ^ (7 * i)
        rw [Nat.add_mul, Nat.mul_comm 128 (dec _), Nat.mul_assoc]
        omega
theorem num_first {l : List Nat} {n k : Nat} (h : num l = some (n, k)) : ∃ d, k = d + 1 ∧ d < 10 ∧ d < l.length ∧ (∀ j, j < d → 128 ≤ l.getD j 0) ∧ l.getD d 0 < 128 ∧ n = dec (l.take (d + 1)) := by
  obtain ⟨d, h1, h2, h3, h4, h5, h6⟩ := numF_first 10 0 0 l n k h
  exact ⟨d, by omega, h2, h3, h4, h5, by simpa using h6⟩
/-- no byte below 128 among the first ten: no number -/
theorem num_none {l : List Nat} (h : ∀ j, j < 10 → j < l.length → 128 ≤ l.getD j 0) : num l = none := by
  cases hn : num l with
  | none => rfl
  | some q =>
    obtain ⟨d, _, h2, h3, _, h5, _⟩ := num_first (n := q.1) (k := q.2) hn
    have := h d h2 h3
    omega
/-- the first byte below 128 ends the number, if its encoding is these bytes -/
theorem num_yes {l : List Nat} {V n : Nat} (hV : V < 18446744073709551616) (he : enc V = l.take n) (hn : n ≤ l.length) : num l = some (V, n) := by
  have h1 := num_enc (l.drop n) hV
  rw [he, List.take_append_drop, List.length_take, Nat.min_eq_left hn] at h1
  exact h1
theorem num_no {l : List Nat} {n : Nat} (hl : ∀ x ∈ l, x < 256) (h1 : 1 ≤ n) (ha : ∀ j, j + 1 < n → 128 ≤ l.getD j 0) (hb : l.getD (n - 1) 0 < 128) (he : enc (dec (l.take n) % 18446744073709551616) ≠ l.take n) : num l = none := by
  cases hq : num l with
  | none => rfl
  | some q =>
    exfalso
    obtain ⟨m, k⟩ := q
    obtain ⟨d, e1, _, _, e4, e5, e6⟩ := num_first hq
    obtain ⟨f1, f2⟩ := enc_num hl hq
    have hd : d + 1 = n := by
      rcases Nat.lt_trichotomy (d + 1) n with h | h | h
      · have := ha d h; omega
      · exact h
      · have := e4 (n - 1) (by omega); omega
    rw [hd] at e6
    apply he
    rw [← e6, Nat.mod_eq_of_lt f1, f2, e1, hd]
end Go.Proofs.Ytfdbdhknamkipaa.En
