import Derived.Test.YtcnjcfmgkkghjaaPlNew
namespace Go.Proofs.Ytcnjcfmgkkghjaa
open Go.RowKit
/-- the basis of Lagrange's formula for the element i, after the first k factors -/
def bas (X : List Nat) (i : Nat) : Nat → List Nat
  | 0 => [1]
  | k + 1 => if k = i then bas X i k else timesT (timesT (bas X i k) [X.getD k 0, 1]) [Gf.inv (X.getD i 0 ^^^ X.getD k 0)]
def lag (X Y : List Nat) (n : Nat) : Nat → List Nat
  | 0 => []
  | i + 1 => Pl.trim (plus (lag X Y n i) (timesT (bas X i n) [Y.getD i 0]))
theorem lt_one {a : Nat} (h : a < 256) : ∀ i, ([a] : List Nat).getD i 0 < 256 := fun i => by
  match i with
  | 0 => exact h
  | i + 1 => simp
theorem lt_two {a b : Nat} (h : a < 256) (k : b < 256) : ∀ i, ([a, b] : List Nat).getD i 0 < 256 := fun i => by
  match i with
  | 0 => exact h
  | 1 => exact k
  | i + 2 => simp
theorem bas_lt {X : List Nat} (i : Nat) : ∀ k j, (bas X i k).getD j 0 < 256
  | 0, j => lt_one (by decide) j
  | k + 1, j => by
    show (if k = i then bas X i k else _).getD j 0 < 256
    split
    · exact bas_lt i k j
    · exact timesT_lt (timesT_lt (bas_lt i k)) j
theorem d1_le2 (A : List Nat) {n : Nat} (h : A.length ≤ n) : Pl.d1 A ≤ n := Nat.le_trans (Pl.d1_le _) h
theorem timesT_len2 (A B : List Nat) {n m : Nat} (hA : A.length ≤ n) (hB : B.length ≤ m + 1) : (timesT A B).length ≤ n + m := by
  unfold timesT
  split
  · exact Nat.zero_le _
  · have h1 := d1_le2 A hA
    have h2 := d1_le2 B hB
    unfold times
    rw [Pl.fn_len]; omega
theorem bas_len (X : List Nat) (i : Nat) : ∀ k, (bas X i k).length ≤ if i < k then k else k + 1
  | 0 => by rw [if_neg (by omega)]; exact Nat.le_refl _
  | k + 1 => by
    have ih := bas_len X i k
    show (if k = i then bas X i k else _).length ≤ _
    by_cases h : k = i
    · rw [if_pos h, if_pos (by omega)]; rw [if_neg (by omega)] at ih; exact ih
    · rw [if_neg h]
      by_cases h1 : i < k
      · rw [if_pos h1] at ih
        rw [if_pos (show i < k + 1 by omega)]
        exact timesT_len2 (m := 0) _ _ (timesT_len2 (m := 1) _ _ ih (Nat.le_refl _)) (Nat.le_refl _)
      · rw [if_neg h1] at ih
        rw [if_neg (show ¬ i < k + 1 by omega)]
        exact timesT_len2 (m := 0) _ _ (timesT_len2 (m := 1) _ _ ih (Nat.le_refl _)) (Nat.le_refl _)
theorem bas_le (X : List Nat) (i k : Nat) : (bas X i k).length ≤ k + 1 := Nat.le_trans (bas_len X i k) (by split <;> omega)
theorem lag_lt {X Y : List Nat} (n : Nat) : ∀ i j, (lag X Y n i).getD j 0 < 256
  | 0, j => by show ([] : List Nat).getD j 0 < 256; simp
  | i + 1, j => co_trim_lt (plus_lt (lag_lt n i) (timesT_lt (bas_lt i n))) j
theorem plus_len2 {A B : List Nat} {n : Nat} (hA : A.length ≤ n) (hB : B.length ≤ n) : (Pl.trim (plus A B)).length ≤ n := by
  rw [Pl.trim_len]
  refine Nat.le_trans (Pl.d1_le _) ?_
  unfold plus; rw [Pl.fn_len]; omega
theorem lag_len (X Y : List Nat) (n : Nat) : ∀ i, i ≤ n → (lag X Y n i).length ≤ n
  | 0, _ => Nat.zero_le _
  | i + 1, h => plus_len2 (lag_len X Y n i (by omega)) (by
    have := bas_len X i n
    rw [if_pos (by omega)] at this
    exact timesT_len2 (m := 0) _ _ this (Nat.le_refl _))
theorem lag_nf (X Y : List Nat) (n i : Nat) : Pl.trim (lag X Y n i) = lag X Y n i := by
  cases i with
  | zero => rfl
  | succ i => exact Pl.trim_trim _
theorem hor_one {x c : Nat} : Pl.hor x [c] = c := by show Gf.mul 0 x ^^^ c = c; rw [Gf.zero_mul, Nat.zero_xor]
theorem hor_lin {x r : Nat} (hx : x < 256) : Pl.hor x [r, 1] = x ^^^ r := by
  show Gf.mul (Gf.mul 0 x ^^^ 1) x ^^^ r = _
  rw [Gf.zero_mul, Nat.zero_xor, Gf.mul_comm (by decide) hx, Gf.mul_one hx]
theorem bas_hor {X : List Nat} (hX : ∀ i, X.getD i 0 < 256) (i k : Nat) (h : k ≠ i) {x : Nat} (hx : x < 256) : Pl.hor x (bas X i (k + 1)) = Gf.mul (Gf.mul (Pl.hor x (bas X i k)) (x ^^^ X.getD k 0)) (Gf.inv (X.getD i 0 ^^^ X.getD k 0)) := by
  have e : bas X i (k + 1) = timesT (timesT (bas X i k) [X.getD k 0, 1]) [Gf.inv (X.getD i 0 ^^^ X.getD k 0)] := if_neg h
  have hi : Gf.inv (X.getD i 0 ^^^ X.getD k 0) < 256 := Gf.pw_lt _ 254
  rw [e, ring_ev_mul hx (timesT_lt (bas_lt i k)) (lt_one hi), ring_ev_mul hx (bas_lt i k) (lt_two (hX k) (by decide)), hor_one, hor_lin hx]
theorem bas_other {X : List Nat} (hX : ∀ i, X.getD i 0 < 256) (i j : Nat) (h : j ≠ i) : ∀ k, j < k → Pl.hor (X.getD j 0) (bas X i k) = 0
  | 0, hk => by omega
  | k + 1, hk => by
    by_cases hki : k = i
    · have e : bas X i (k + 1) = bas X i k := if_pos hki
      rw [e]; exact bas_other hX i j h k (by omega)
    · rw [bas_hor hX i k hki (hX j)]
      by_cases hjk : j = k
      · subst hjk; rw [Nat.xor_self, Gf.mul_zero, Gf.zero_mul]
      · rw [bas_other hX i j h k (by omega), Gf.zero_mul, Gf.zero_mul]
theorem bas_self {X : List Nat} (hX : ∀ i, X.getD i 0 < 256) {n : Nat} (hd : Dst X n) (i : Nat) (hi : i < n) : ∀ k, k ≤ n → Pl.hor (X.getD i 0) (bas X i k) = 1
  | 0, _ => hor_one
  | k + 1, hk => by
    by_cases hki : k = i
    · have e : bas X i (k + 1) = bas X i k := if_pos hki
      rw [e]; exact bas_self hX hd i hi k (by omega)
    · rw [bas_hor hX i k hki (hX i), bas_self hX hd i hi k (by omega)]
      have hne : X.getD i 0 ≠ X.getD k 0 := by
        rcases Nat.lt_or_ge i k with h | h
        · exact hd i k h (by omega)
        · exact (hd k i (by omega) hi).symm
      have hb := Gf.xor_lt (hX i) (hX k)
      rw [Gf.mul_comm (by decide) hb, Gf.mul_one hb, Gf.mul_inv hb (xor_ne hne)]
theorem lag_hor {X Y : List Nat} (hX : ∀ i, X.getD i 0 < 256) (hY : ∀ i, Y.getD i 0 < 256) {n : Nat} (hd : Dst X n) (j : Nat) (hj : j < n) : ∀ i, i ≤ n → Pl.hor (X.getD j 0) (lag X Y n i) = if j < i then Y.getD j 0 else 0
  | 0, _ => by rw [if_neg (by omega)]; rfl
  | i + 1, hi => by
    show Pl.hor _ (Pl.trim (plus _ _)) = _
    rw [ring_ev_add (hX j) (lag_lt n i) (timesT_lt (bas_lt i n)), lag_hor hX hY hd j hj i (by omega), ring_ev_mul (hX j) (bas_lt i n) (lt_one (hY i)), hor_one]
    by_cases h : j = i
    · subst h
      rw [bas_self hX hd j hj n (Nat.le_refl _), if_neg (by omega), if_pos (by omega), Nat.zero_xor, Gf.mul_comm (by decide) (hY j), Gf.mul_one (hY j)]
    · rw [bas_other hX i j h n hj, Gf.zero_mul, Nat.xor_zero]
      by_cases h2 : j < i
      · rw [if_pos h2, if_pos (by omega)]
      · rw [if_neg h2, if_neg (by omega)]
theorem lag_eq {X Y : List Nat} {n : Nat} (hX : ∀ i, X.getD i 0 < 256) (hY : ∀ i, Y.getD i 0 < 256) (hd : Dst X n) : (ipL X Y n).1 = lag X Y n n := by
  rw [← lag_nf X Y n n]
  exact unique_eq (lag_lt n n) hX hY hd (fun i hi => by rw [lag_hor hX hY hd i hi n (Nat.le_refl _), if_pos hi]) (d1_le2 _ (lag_len X Y n n (Nat.le_refl _)))
end Go.Proofs.Ytcnjcfmgkkghjaa
