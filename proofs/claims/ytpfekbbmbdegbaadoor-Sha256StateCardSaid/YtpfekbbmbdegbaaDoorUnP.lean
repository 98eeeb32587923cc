import Derived.Test.YtpfekbbmbdegbaaDoorHexP
namespace Go.Proofs.YtpfekbbmbdegbaaDoor.Hx
/-- the digit at a place, 0 if it is none -/
def D (xs : List Nat) (p : Nat) : Nat := (val (xs.getD p 0)).getD 0
def pairs (xs : List Nat) : List Nat := (List.range (xs.length / 2)).map fun j => 16 * D xs (2 * j) + D xs (2 * j + 1)
theorem D_cons2 (a b : Nat) (t : List Nat) (p : Nat) : D (a :: b :: t) (p + 2) = D t p := rfl
theorem pairs_cons (a b : Nat) (t : List Nat) : pairs (a :: b :: t) = (16 * (val a).getD 0 + (val b).getD 0) :: pairs t := by
  unfold pairs
  have : (a :: b :: t).length / 2 = t.length / 2 + 1 := by simp; omega
  rw [this, List.range_succ_eq_map, List.map_cons, List.map_map]
  congr 1
theorem un_some (n : Nat) : ∀ xs : List Nat, xs.length ≤ n → xs.length % 2 = 0 → (∀ p, p < xs.length → val (xs.getD p 0) ≠ none) → un xs = some (pairs xs) := by
  induction n with
  | zero => intro xs h _ _; obtain rfl : xs = [] := List.eq_nil_of_length_eq_zero (by omega); rfl
  | succ n ih =>
    intro xs h h2 h3
    match xs, h, h2, h3 with
    | [], _, _, _ => rfl
    | [_], _, h2, _ => simp at h2
    | a :: b :: t, h, h2, h3 =>
      have ha := h3 0 (by simp)
      have hb := h3 1 (by simp)
      simp only [List.getD_cons_zero, List.getD_cons_succ] at ha hb
      obtain ⟨x, hx⟩ := Option.ne_none_iff_exists'.1 ha
      obtain ⟨y, hy⟩ := Option.ne_none_iff_exists'.1 hb
      have := ih t (by simp at h; omega) (by simp at h2; omega) (fun p hp => by have := h3 (p + 2) (by simp; omega); simpa using this)
      rw [pairs_cons]
      simp only [un, hx, hy, this, Option.getD_some]
theorem un_none (n : Nat) : ∀ xs : List Nat, xs.length ≤ n → (xs.length % 2 ≠ 0 ∨ ∃ p, p < xs.length ∧ val (xs.getD p 0) = none) → un xs = none := by
  induction n with
  | zero =>
    intro xs h h2
    obtain rfl : xs = [] := List.eq_nil_of_length_eq_zero (by omega)
    rcases h2 with h2 | ⟨p, hp, _⟩
    · simp at h2
    · simp at hp
  | succ n ih =>
    intro xs h h2
    match xs, h, h2 with
    | [], _, h2 =>
      rcases h2 with h2 | ⟨p, hp, _⟩
      · simp at h2
      · simp at hp
    | [_], _, _ => rfl
    | a :: b :: t, h, h2 =>
      simp only [un]
      split
      · rename_i x y r hx hy hr
        exfalso
        have : un t = none := by
          apply ih t (by simp at h; omega)
          rcases h2 with h2 | ⟨p, hp, hv⟩
          · left; simp at h2; omega
          · right
            match p, hp, hv with
            | 0, _, hv => simp at hv; rw [hv] at hx; cases hx
            | 1, _, hv => simp at hv; rw [hv] at hy; cases hy
            | p + 2, hp, hv => exact ⟨p, by simp at hp; omega, by simpa using hv⟩
        rw [this] at hr; cases hr
      · rfl
theorem D_lt (xs : List Nat) (p : Nat) : D xs p < 16 := by
  unfold D
  cases h : val (xs.getD p 0) with
  | none => decide
  | some v => exact val_lt h
/-- the bytes when the first i digits have been read -/
def part (xs : List Nat) (i j : Nat) : Nat := if 2 * j + 1 < i then 16 * D xs (2 * j) + D xs (2 * j + 1) else if 2 * j < i then D xs (2 * j) else 0
theorem part_step (xs : List Nat) (i j : Nat) : (if j = i / 2 then part xs i j * 16 + D xs i else part xs i j) = part xs (i + 1) j := by
  unfold part
  by_cases hj : j = i / 2
  · subst hj
    rw [if_pos rfl]
    by_cases ho : i % 2 = 0
    · have e : 2 * (i / 2) = i := by omega
      rw [e, if_neg (by omega), if_neg (by omega), if_neg (by omega), if_pos (by omega)]; omega
    · have e : 2 * (i / 2) + 1 = i := by omega
      rw [if_neg (by omega), if_pos (by omega), if_pos (by omega), e]; omega
  · rw [if_neg hj]
    by_cases h1 : 2 * j + 1 < i
    · rw [if_pos h1, if_pos (by omega)]
    · rw [if_neg h1, if_neg (by omega), if_neg (by omega), if_neg (by omega)]
theorem part_lt (xs : List Nat) (i : Nat) : part xs i (i / 2) < 16 := by
  unfold part
  rw [if_neg (by omega)]
  split
  · exact D_lt _ _
  · decide
theorem part_all (xs : List Nat) (j : Nat) (h : xs.length % 2 = 0) (hj : j < xs.length / 2) : part xs xs.length j = (pairs xs).getD j 0 := by
  unfold part pairs
  rw [if_pos (by omega), List.getD_eq_getElem?_getD, List.getElem?_map, List.getElem?_range hj, Option.map_some, Option.getD_some]
theorem part_zero (xs : List Nat) (j : Nat) : part xs 0 j = 0 := by unfold part; rw [if_neg (by omega), if_neg (by omega)]
theorem pairs_len (xs : List Nat) : (pairs xs).length = xs.length / 2 := by simp [pairs]
end Go.Proofs.YtpfekbbmbdegbaaDoor.Hx
