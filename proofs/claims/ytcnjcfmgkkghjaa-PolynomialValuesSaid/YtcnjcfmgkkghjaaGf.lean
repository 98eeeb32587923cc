namespace Go.Proofs.Ytcnjcfmgkkghjaa.Gf
/-- the product with 2 -/
def X (a : Nat) : Nat := (2 * (a % 128)) ^^^ (29 * (a / 128))
def gm : Nat → Nat → Nat → Nat
  | 0, _, _ => 0
  | n + 1, a, b => (if b % 2 = 1 then a else 0) ^^^ (gm n (X a) (b / 2))
def mul (a b : Nat) : Nat := gm 8 a b
theorem xor_lt {a b : Nat} (ha : a < 256) (hb : b < 256) : a ^^^ b < 256 := Nat.xor_lt_two_pow (n := 8) ha hb
theorem X_lt {a : Nat} (h : a < 256) : X a < 256 := xor_lt (by omega) (by omega)
theorem two_xor (a b : Nat) : 2 * (a ^^^ b) = (2 * a) ^^^ (2 * b) := by
  have := Nat.shiftLeft_xor_distrib (a := a) (b := b) (i := 1)
  simpa [Nat.shiftLeft_eq, Nat.mul_comm] using this
theorem bit_xor (p q : Nat) (hp : p < 2) (hq : q < 2) : 29 * (p ^^^ q) = (29 * p) ^^^ (29 * q) := by
  obtain rfl | rfl : p = 0 ∨ p = 1 := by omega
  all_goals (obtain rfl | rfl : q = 0 ∨ q = 1 := by omega)
  all_goals rfl
theorem xor4 (a b c d : Nat) : (a ^^^ b) ^^^ (c ^^^ d) = (a ^^^ c) ^^^ (b ^^^ d) := by
  rw [Nat.xor_assoc, Nat.xor_assoc, ← Nat.xor_assoc b, ← Nat.xor_assoc c, Nat.xor_comm b c]
theorem X_xor (a b : Nat) (ha : a < 256) (hb : b < 256) : X (a ^^^ b) = X a ^^^ X b := by
  have h1 : (a ^^^ b) % 128 = (a % 128) ^^^ (b % 128) := Nat.xor_mod_two_pow (n := 7)
  have h2 : (a ^^^ b) / 128 = (a / 128) ^^^ (b / 128) := Nat.xor_div_two_pow (n := 7)
  unfold X
  rw [h1, h2, two_xor, bit_xor _ _ (by omega) (by omega), xor4]
theorem X_zero : X 0 = 0 := rfl
theorem gm_lt (n : Nat) : ∀ a b, a < 256 → gm n a b < 256 := by
  induction n with
  | zero => intro a b _; exact (by decide : 0 < 256)
  | succ n ih => intro a b ha; unfold gm; exact xor_lt (by split <;> omega) (ih _ _ (X_lt ha))
theorem gm_zero_left (n : Nat) : ∀ b, gm n 0 b = 0 := by
  induction n with
  | zero => intro b; rfl
  | succ n ih => intro b; unfold gm; rw [X_zero, ih]; simp
theorem gm_zero_right (n : Nat) : ∀ a, gm n a 0 = 0 := by
  induction n with
  | zero => intro b; rfl
  | succ n ih => intro b; unfold gm; simp [ih]
theorem gm_xor (n : Nat) : ∀ a a' b, a < 256 → a' < 256 → gm n (a ^^^ a') b = gm n a b ^^^ gm n a' b := by
  induction n with
  | zero => intro a a' b _ _; simp [gm]
  | succ n ih =>
    intro a a' b ha ha'
    unfold gm
    rw [X_xor _ _ ha ha', ih _ _ _ (X_lt ha) (X_lt ha'), xor4 (if b % 2 = 1 then a else 0)]
    congr 1
    split <;> simp
theorem gm_X (n : Nat) : ∀ a b, a < 256 → gm n (X a) b = X (gm n a b) := by
  induction n with
  | zero => intro a b _; simp [gm, X]
  | succ n ih =>
    intro a b ha
    unfold gm
    rw [ih _ _ (X_lt ha), X_xor _ _ (by split <;> omega) (gm_lt _ _ _ (X_lt ha))]
    congr 1
    split <;> rfl
/-- the i-fold product with 2 -/
def Xp : Nat → Nat → Nat
  | 0, a => a
  | i + 1, a => X (Xp i a)
theorem Xp_lt (i : Nat) {a : Nat} (h : a < 256) : Xp i a < 256 := by
  induction i with
  | zero => exact h
  | succ i ih => exact X_lt ih
theorem Xp_add (i j a : Nat) : Xp (i + j) a = Xp i (Xp j a) := by
  induction i with
  | zero => simp [Xp]
  | succ i ih => rw [show i + 1 + j = (i + j) + 1 by omega]; simp [Xp, ih]
theorem Xp_xor (i a b : Nat) (ha : a < 256) (hb : b < 256) : Xp i (a ^^^ b) = Xp i a ^^^ Xp i b := by
  induction i with
  | zero => rfl
  | succ i ih => simp only [Xp]; rw [ih, X_xor _ _ (Xp_lt i ha) (Xp_lt i hb)]
theorem Xp_zero (i : Nat) : Xp i 0 = 0 := by
  induction i with
  | zero => rfl
  | succ i ih => simp only [Xp]; rw [ih]; rfl
theorem one_mul_all : ∀ b : Fin 256, mul 1 b.val = b.val := by decide +kernel
theorem one_mul {b : Nat} (h : b < 256) : mul 1 b = b := one_mul_all ⟨b, h⟩
theorem mul_lt {a : Nat} (b : Nat) (h : a < 256) : mul a b < 256 := gm_lt 8 a b h
theorem Xp_mul (i a b : Nat) (ha : a < 256) : mul (Xp i a) b = Xp i (mul a b) := by
  induction i with
  | zero => rfl
  | succ i ih => simp only [Xp]; unfold mul at *; rw [gm_X _ _ _ (Xp_lt i ha), ih]
/-- 2 to the power i -/
def E (i : Nat) : Nat := Xp i 1
theorem E_lt (i : Nat) : E i < 256 := Xp_lt i (by decide)
theorem E_mul (i b : Nat) (hb : b < 256) : mul (E i) b = Xp i b := by
  unfold E; rw [Xp_mul _ _ _ (by decide), one_mul hb]
theorem mul_E (i j : Nat) : mul (E i) (E j) = E (i + j) := by
  rw [E_mul _ _ (E_lt j)]; unfold E; rw [Xp_add]
theorem log_all : ∀ a : Fin 256, a.val = 0 ∨ ∃ i : Fin 255, E i.val = a.val := by decide +kernel
theorem log_ex {a : Nat} (h : a < 256) (h0 : a ≠ 0) : ∃ i, i < 255 ∧ E i = a := by
  rcases log_all ⟨a, h⟩ with h1 | ⟨i, hi⟩
  · exact absurd h1 h0
  · exact ⟨i.val, i.isLt, hi⟩
theorem E_255 : E 255 = 1 := by decide +kernel
theorem E_ne_zero_all : ∀ i : Fin 255, E i.val ≠ 0 := by decide +kernel
theorem E_period (i k : Nat) : E (i + 255 * k) = E i := by
  induction k with
  | zero => rfl
  | succ k ih =>
    rw [show i + 255 * (k + 1) = (i + 255 * k) + 255 by omega]
    have : E ((i + 255 * k) + 255) = Xp (i + 255 * k) (E 255) := by unfold E; rw [Xp_add]
    rw [this, E_255]; exact ih
theorem E_mod (i : Nat) : E (i % 255) = E i := by
  have := E_period (i % 255) (i / 255)
  rw [Nat.mod_add_div] at this
  exact this.symm
theorem E_ne_zero (i : Nat) : E i ≠ 0 := by
  rw [← E_mod]; exact E_ne_zero_all ⟨i % 255, Nat.mod_lt _ (by decide)⟩
theorem zero_mul (b : Nat) : mul 0 b = 0 := gm_zero_left 8 b
theorem mul_zero (a : Nat) : mul a 0 = 0 := gm_zero_right 8 a
theorem mul_comm {a b : Nat} (ha : a < 256) (hb : b < 256) : mul a b = mul b a := by
  by_cases h0 : a = 0
  · subst h0; rw [zero_mul, mul_zero]
  by_cases h1 : b = 0
  · subst h1; rw [zero_mul, mul_zero]
  obtain ⟨i, _, rfl⟩ := log_ex ha h0
  obtain ⟨j, _, rfl⟩ := log_ex hb h1
  rw [mul_E, mul_E, Nat.add_comm]
theorem mul_assoc {a b c : Nat} (ha : a < 256) (hb : b < 256) (hc : c < 256) : mul a (mul b c) = mul (mul a b) c := by
  by_cases h0 : a = 0
  · subst h0; rw [zero_mul, zero_mul, zero_mul]
  by_cases h1 : b = 0
  · subst h1; rw [zero_mul, mul_zero, zero_mul]
  by_cases h2 : c = 0
  · subst h2; rw [mul_zero, mul_zero, mul_zero]
  obtain ⟨i, _, rfl⟩ := log_ex ha h0
  obtain ⟨j, _, rfl⟩ := log_ex hb h1
  obtain ⟨k, _, rfl⟩ := log_ex hc h2
  rw [mul_E, mul_E, mul_E, mul_E, Nat.add_assoc]
theorem xor_mul {a b : Nat} (c : Nat) (ha : a < 256) (hb : b < 256) : mul (a ^^^ b) c = mul a c ^^^ mul b c := gm_xor 8 a b c ha hb
theorem mul_xor {a b c : Nat} (ha : a < 256) (hb : b < 256) (hc : c < 256) : mul a (b ^^^ c) = mul a b ^^^ mul a c := by
  rw [mul_comm ha (xor_lt hb hc), xor_mul a hb hc, mul_comm hb ha, mul_comm hc ha]
theorem mul_one {a : Nat} (ha : a < 256) : mul a 1 = a := by rw [mul_comm ha (by decide), one_mul ha]
theorem X_eq_mul {a : Nat} (ha : a < 256) : X a = mul 2 a := by
  have := E_mul 1 a ha
  simpa [E, Xp, show X 1 = 2 from rfl] using this.symm
/-- powers -/
def pw (a : Nat) : Nat → Nat
  | 0 => 1
  | n + 1 => mul (pw a n) a
theorem pw_lt (a n : Nat) : pw a n < 256 := by
  induction n with
  | zero => exact (by decide : 1 < 256)
  | succ n ih => exact mul_lt _ ih
theorem pw_E (i n : Nat) : pw (E i) n = E (i * n) := by
  induction n with
  | zero => rfl
  | succ n ih => simp only [pw]; rw [ih, mul_E]; congr 1
def inv (a : Nat) : Nat := pw a 254
theorem inv_E (i : Nat) : inv (E i) = E (i * 254) := pw_E i 254
theorem mul_inv {a : Nat} (ha : a < 256) (h0 : a ≠ 0) : mul a (inv a) = 1 := by
  obtain ⟨i, _, rfl⟩ := log_ex ha h0
  rw [inv_E, mul_E, ← E_mod, show (i + i * 254) % 255 = 0 by omega]; rfl
theorem gm_step (n a b : Nat) : gm (n + 1) a b = (if b % 2 = 1 then a else 0) ^^^ gm n (X a) (b / 2) := rfl
/-- the logarithm, by search from x, the power n of 2 -/
def lgf : Nat → Nat → Nat → Nat → Nat
  | 0, _, n, _ => n
  | f + 1, x, n, a => if x = a then n else lgf f (X x) (n + 1) a
def lg (a : Nat) : Nat := lgf 255 1 0 a
theorem lg_E_all : ∀ k : Fin 255, lg (E k.val) = k.val := by decide +kernel
theorem lg_E {k : Nat} (h : k < 255) : lg (E k) = k := lg_E_all ⟨k, h⟩
theorem E_inj {i j : Nat} (hi : i < 255) (hj : j < 255) (h : E i = E j) : i = j := by
  rw [← lg_E hi, ← lg_E hj, h]
theorem E_lg {a : Nat} (h : a < 256) (h0 : a ≠ 0) : E (lg a) = a := by
  obtain ⟨i, hi, rfl⟩ := log_ex h h0
  rw [lg_E hi]
theorem lg_lt {a : Nat} (h : a < 256) (h0 : a ≠ 0) : lg a < 255 := by
  obtain ⟨i, hi, rfl⟩ := log_ex h h0
  rw [lg_E hi]; exact hi
/-- the powers on the way to the inverse -/
def ip (a : Nat) : Nat → Nat
  | 0 => a
  | k + 1 => mul (mul (ip a k) (ip a k)) a
theorem ip_lt {a : Nat} (h : a < 256) (k : Nat) : ip a k < 256 := by
  cases k with
  | zero => exact h
  | succ k => exact gm_lt 8 _ _ (gm_lt 8 _ _ (by
      induction k with
      | zero => exact h
      | succ k ih => exact gm_lt 8 _ _ (gm_lt 8 _ _ ih)))
theorem ip_E (i k : Nat) : ip (E i) k = E (i * (2 ^ (k + 1) - 1)) := by
  induction k with
  | zero => simp [ip]
  | succ k ih =>
    simp only [ip]
    rw [ih, mul_E, mul_E]
    congr 1
    have : 2 ^ (k + 1 + 1) - 1 = 2 * (2 ^ (k + 1) - 1) + 1 := by
      have := Nat.one_le_two_pow (n := k + 1); rw [Nat.pow_succ 2 (k + 1)]; omega
    rw [this, Nat.mul_add, Nat.mul_left_comm]; omega
theorem ip_6 {a : Nat} (h : a < 256) : mul (ip a 6) (ip a 6) = inv a := by
  by_cases h0 : a = 0
  · subst h0; decide +kernel
  obtain ⟨i, _, rfl⟩ := log_ex h h0
  rw [ip_E, mul_E, inv_E]; congr 1; omega
/-- squares of squares -/
def sq (a : Nat) : Nat → Nat
  | 0 => a
  | k + 1 => mul (sq a k) (sq a k)
theorem sq_lt {a : Nat} (h : a < 256) (k : Nat) : sq a k < 256 := by
  induction k with
  | zero => exact h
  | succ k ih => exact gm_lt 8 _ _ ih
theorem sq_E (i k : Nat) : sq (E i) k = E (i * 2 ^ k) := by
  induction k with
  | zero => simp [sq]
  | succ k ih => simp only [sq]; rw [ih, mul_E, Nat.pow_succ, ← Nat.mul_add]; congr 2; omega
def sqrt (a : Nat) : Nat := sq a 7
theorem sqrt_mul {a : Nat} (h : a < 256) : mul (sqrt a) (sqrt a) = a := by
  by_cases h0 : a = 0
  · subst h0; decide +kernel
  obtain ⟨i, hi, rfl⟩ := log_ex h h0
  unfold sqrt
  rw [sq_E, mul_E, ← E_mod, show (i * 2 ^ 7 + i * 2 ^ 7) % 255 = i by omega]
theorem mul_sqrt {a : Nat} (h : a < 256) : sqrt (mul a a) = a := by
  by_cases h0 : a = 0
  · subst h0; decide +kernel
  obtain ⟨i, hi, rfl⟩ := log_ex h h0
  unfold sqrt
  rw [mul_E, sq_E, ← E_mod, show (i + i) * 2 ^ 7 % 255 = i by omega]
theorem tmod_bd (n : Int) : -254 ≤ n.tmod 255 ∧ n.tmod 255 ≤ 254 := by
  have h1 := Int.tmod_lt_of_pos n (show (0 : Int) < 255 by decide)
  have h2 := Int.lt_tmod_of_pos n (show (0 : Int) < 255 by decide)
  omega
theorem tmod_mod (n : Int) : (n.tmod 255 + 255).tmod 255 = n % 255 := by
  have hb := tmod_bd n
  have h := Int.mul_tdiv_add_tmod n 255
  rw [Int.tmod_eq_emod_of_nonneg (by omega)]
  omega
/-- an exponent modulo 255 -/
def res (n : Int) : Nat := (n % 255).toNat
theorem res_eq (n : Int) : (n.tmod 255 + 255).tmod 255 = (res n : Int) := by rw [tmod_mod]; unfold res; omega
theorem res_eq2 (n : Int) : (n.tmod 255 + 255) % 255 = (res n : Int) := by
  have hb := tmod_bd n
  have := res_eq n
  rwa [Int.tmod_eq_emod_of_nonneg (by omega)] at this
theorem res_lt (n : Int) : res n < 255 := by unfold res; omega
/-- the power with any exponent of an element other than 0 -/
def zpw (a : Nat) (n : Int) : Nat := E (lg a * res n % 255)
theorem zpw_E (i : Nat) (hi : i < 255) (n : Int) : zpw (E i) n = E (i * res n) := by
  unfold zpw; rw [lg_E hi, E_mod]
theorem gcd_step (p q : Nat) : Nat.gcd q (p % q) = Nat.gcd p q := by
  rw [Nat.gcd_comm p q, Nat.gcd_rec q p, Nat.gcd_comm]
theorem gcd_div (n : Nat) : Nat.gcd 255 n ∣ 255 := Nat.gcd_dvd_left _ _
theorem gcd_pos (n : Nat) : 0 < Nat.gcd 255 n := Nat.gcd_pos_of_pos_left _ (by decide)
theorem gcd_le (n : Nat) : Nat.gcd 255 n ≤ 255 := Nat.le_of_dvd (by decide) (gcd_div n)
def order (a : Nat) : Nat := 255 / Nat.gcd 255 (lg a)
theorem order_le (a : Nat) : order a ≤ 255 := Nat.div_le_self _ _
theorem order_pos (a : Nat) : 0 < order a := Nat.div_pos (gcd_le _) (gcd_pos _)
theorem order_dvd (a : Nat) : order a ∣ 255 := Nat.div_dvd_of_dvd (gcd_div _)
theorem lg_order (a : Nat) : lg a * order a % 255 = 0 := by
  unfold order
  obtain ⟨q, hq⟩ := Nat.gcd_dvd_right 255 (lg a)
  obtain ⟨r, hr⟩ := gcd_div (lg a)
  have hp := gcd_pos (lg a)
  generalize Nat.gcd 255 (lg a) = g at *
  rw [hr, Nat.mul_div_cancel_left _ hp, hq, Nat.mul_assoc, Nat.mul_left_comm]
  exact Nat.mul_mod_left _ _
def dot (f g : Nat → Nat) : Nat → Nat
  | 0 => 0
  | k + 1 => dot f g k ^^^ mul (f k) (g k)
theorem dot_lt (f g : Nat → Nat) (k : Nat) (h : ∀ i, i < k → f i < 256) : dot f g k < 256 := by
  induction k with
  | zero => exact (by decide : 0 < 256)
  | succ k ih => exact xor_lt (ih (fun i hi => h i (by omega))) (mul_lt _ (h k (by omega)))
theorem sq_xor {a b : Nat} (ha : a < 256) (hb : b < 256) : mul (a ^^^ b) (a ^^^ b) = mul a a ^^^ mul b b := by
  rw [xor_mul _ ha hb, mul_xor ha ha hb, mul_xor hb ha hb, mul_comm hb ha, Nat.xor_assoc, ← Nat.xor_assoc (mul a b) (mul a b), Nat.xor_self, Nat.zero_xor]
theorem zpw_256 {a : Nat} (ha : a < 256) (h0 : a ≠ 0) : zpw a 256 = a := by
  obtain ⟨i, hi, rfl⟩ := log_ex ha h0
  rw [zpw_E i hi, show res 256 = 1 by decide, Nat.mul_one]
end Go.Proofs.Ytcnjcfmgkkghjaa.Gf
