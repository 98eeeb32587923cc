namespace Go.Proofs.YtegfbmekpmdcaaaDoor.Ot
/-- the digits of a digest, told on lists of bytes -/
def las (b : Nat) : Nat := 2 ^ b - 1
def mn (b s : Nat) : Nat := 8 * s / b
def cdF : Nat → Nat → Nat → Nat → Nat
  | 0, _, _, _ => 0
  | f + 1, b, p, g => if p ≤ g then 1 + cdF f b (p * 2 ^ b) g else 0
def cd (b s : Nat) : Nat := cdF 10 b 1 (mn b s * las b)
def tot (b s : Nat) : Nat := mn b s + cd b s
def okB (b s : Nat) : Bool := (b == 1 || b == 2 || b == 4 || b == 8) && (decide (1 ≤ s) && decide (s ≤ 32))
theorem ok_iff (b s : Nat) : okB b s = true ↔ (b = 1 ∨ b = 2 ∨ b = 4 ∨ b = 8) ∧ 1 ≤ s ∧ s ≤ 32 := by
  simp [okB, or_assoc]
theorem ok_all (p : Nat → Nat → Bool) (h : ([1, 2, 4, 8].all fun b => (List.range 33).all fun s => p b s || !okB b s) = true) (b s : Nat) (ho : okB b s = true) : p b s = true := by
  have h0 := (ok_iff b s).1 ho
  have hb : b ∈ [1, 2, 4, 8] := by simp; exact h0.1
  have h1 := List.all_eq_true.1 h b hb
  have h2 := List.all_eq_true.1 h1 s (List.mem_range.2 (by omega))
  rw [ho] at h2
  simpa using h2
theorem cd_fit (b s : Nat) (ho : okB b s = true) : mn b s * las b < 2 ^ (b * cd b s) := by
  have := ok_all (fun b s => decide (mn b s * las b < 2 ^ (b * cd b s))) (by decide +kernel) b s ho
  simpa using this
theorem cd_bd (b s : Nat) (ho : okB b s = true) : 1 ≤ cd b s ∧ cd b s ≤ 9 := by
  have := ok_all (fun b s => decide (1 ≤ cd b s ∧ cd b s ≤ 9)) (by decide +kernel) b s ho
  simpa using this
theorem cd_sh (b s : Nat) (ho : okB b s = true) : (cd b s - 1) * b ≤ 16 := by
  have := ok_all (fun b s => decide ((cd b s - 1) * b ≤ 16)) (by decide +kernel) b s ho
  simpa using this
theorem mn_bd (b s : Nat) (ho : okB b s = true) : 1 ≤ mn b s ∧ mn b s ≤ 256 ∧ mn b s * b = 8 * s := by
  have := ok_all (fun b s => decide (1 ≤ mn b s ∧ mn b s ≤ 256 ∧ mn b s * b = 8 * s)) (by decide +kernel) b s ho
  simpa using this
theorem tot_bd (b s : Nat) (ho : okB b s = true) : 2 ≤ tot b s ∧ tot b s ≤ 265 := by
  have h1 := cd_bd b s ho
  have h2 := mn_bd b s ho
  unfold tot; omega
theorem las_bd (b s : Nat) (ho : okB b s = true) : 1 ≤ las b ∧ las b ≤ 255 ∧ las b + 1 = 2 ^ b ∧ b ≤ 8 := by
  have := ok_all (fun b _ => decide (1 ≤ las b ∧ las b ≤ 255 ∧ las b + 1 = 2 ^ b ∧ b ≤ 8)) (by decide +kernel) b s ho
  simpa using this
def dg (b : Nat) (xs : List Nat) (i : Nat) : Nat := xs.getD (i * b / 8) 0 / 2 ^ (8 - b - i * b % 8) % 2 ^ b
def ckTo (b : Nat) (xs : List Nat) : Nat → Nat
  | 0 => 0
  | i + 1 => ckTo b xs i + (las b - dg b xs i)
def ck (b s : Nat) (xs : List Nat) : Nat := ckTo b xs (mn b s)
/-- digit i of the digest with its checksum -/
def dgs (b s : Nat) (xs : List Nat) (i : Nat) : Nat := if i < mn b s then dg b xs i else ck b s xs / 2 ^ ((tot b s - 1 - i) * b) % 2 ^ b
theorem dg_le (b : Nat) (xs : List Nat) (i : Nat) : dg b xs i ≤ las b := by
  unfold dg las
  have := Nat.mod_lt (xs.getD (i * b / 8) 0 / 2 ^ (8 - b - i * b % 8)) (Nat.two_pow_pos b)
  omega
theorem dgs_le (b s : Nat) (xs : List Nat) (i : Nat) : dgs b s xs i ≤ las b := by
  unfold dgs
  split
  · exact dg_le _ _ _
  · unfold las
    have := Nat.mod_lt (ck b s xs / 2 ^ ((tot b s - 1 - i) * b)) (Nat.two_pow_pos b)
    omega
theorem ckTo_le (b : Nat) (xs : List Nat) (n : Nat) : ckTo b xs n ≤ n * las b := by
  induction n with
  | zero => simp [ckTo]
  | succ n ih => unfold ckTo; rw [Nat.succ_mul]; omega
theorem ck_lt (b s : Nat) (ho : okB b s = true) (xs : List Nat) : ck b s xs < 2 ^ (b * cd b s) := Nat.lt_of_le_of_lt (ckTo_le b xs _) (cd_fit b s ho)
theorem ckTo_mono (b : Nat) (xs ys : List Nat) (n : Nat) (h : ∀ i, i < n → dg b xs i ≤ dg b ys i) : ckTo b ys n ≤ ckTo b xs n := by
  induction n with
  | zero => simp [ckTo]
  | succ n ih =>
    have h1 := ih fun i hi => h i (by omega)
    have h2 := h n (by omega)
    have h3 := dg_le b xs n
    have h4 := dg_le b ys n
    unfold ckTo; omega
theorem ckTo_eq (b : Nat) (xs ys : List Nat) (n : Nat) (h : ∀ i, i < n → dg b xs i ≤ dg b ys i) (he : ckTo b xs n ≤ ckTo b ys n) : ∀ i, i < n → dg b xs i = dg b ys i := by
  induction n with
  | zero => intro i hi; omega
  | succ n ih =>
    have h1 := ckTo_mono b xs ys n fun i hi => h i (by omega)
    have h2 := h n (by omega)
    have h3 := dg_le b xs n
    have h4 := dg_le b ys n
    unfold ckTo at he
    intro i hi
    by_cases hn : i = n
    · subst hn; omega
    · exact ih (fun i hi => h i (by omega)) (by omega) i (by omega)
/-- digits to a base tell the order -/
theorem base_le (b : Nat) : ∀ (c u v : Nat), u < 2 ^ (b * c) → v < 2 ^ (b * c) → (∀ j, j < c → u / 2 ^ (j * b) % 2 ^ b ≤ v / 2 ^ (j * b) % 2 ^ b) → u ≤ v := by
  intro c
  induction c with
  | zero => intro u v hu _ _; simp at hu; omega
  | succ c ih =>
    intro u v hu hv h
    have hp := Nat.two_pow_pos b
    have hd : ∀ x, x < 2 ^ (b * (c + 1)) → x / 2 ^ b < 2 ^ (b * c) := fun x hx => by
      rw [Nat.div_lt_iff_lt_mul hp, ← Nat.pow_add]; rwa [Nat.mul_succ] at hx
    have h0 := h 0 (by omega)
    have h1 := ih (u / 2 ^ b) (v / 2 ^ b) (hd u hu) (hd v hv) fun j hj => by
      have := h (j + 1) (by omega)
      rw [Nat.succ_mul, Nat.add_comm, Nat.pow_add, ← Nat.div_div_eq_div_mul, ← Nat.div_div_eq_div_mul] at this
      exact this
    simp at h0
    have e1 := Nat.div_add_mod u (2 ^ b)
    have e2 := Nat.div_add_mod v (2 ^ b)
    have h2 := Nat.mul_le_mul_left (2 ^ b) h1
    omega
theorem base_eq (b c u v : Nat) (hu : u < 2 ^ (b * c)) (hv : v < 2 ^ (b * c)) (h : ∀ j, j < c → u / 2 ^ (j * b) % 2 ^ b = v / 2 ^ (j * b) % 2 ^ b) : u = v :=
  Nat.le_antisymm (base_le b c u v hu hv fun j hj => Nat.le_of_eq (h j hj)) (base_le b c v u hv hu fun j hj => Nat.le_of_eq (h j hj).symm)
theorem dg_at (b : Nat) (hb : b = 1 ∨ b = 2 ∨ b = 4 ∨ b = 8) (xs : List Nat) (q r : Nat) (hr : r < 8 / b) : dg b xs (q * (8 / b) + (8 / b - 1 - r)) = xs.getD q 0 / 2 ^ (r * b) % 2 ^ b := by
  unfold dg
  rcases hb with rfl | rfl | rfl | rfl <;> simp only [Nat.reduceDiv, Nat.div_one] at hr ⊢
  · rw [show (q * 8 + (8 - 1 - r)) * 1 / 8 = q by omega, show 8 - 1 - (q * 8 + (8 - 1 - r)) * 1 % 8 = r * 1 by omega]
  · rw [show (q * 4 + (4 - 1 - r)) * 2 / 8 = q by omega, show 8 - 2 - (q * 4 + (4 - 1 - r)) * 2 % 8 = r * 2 by omega]
  · rw [show (q * 2 + (2 - 1 - r)) * 4 / 8 = q by omega, show 8 - 4 - (q * 2 + (2 - 1 - r)) * 4 % 8 = r * 4 by omega]
  · rw [show (q * 1 + (1 - 1 - r)) * 8 / 8 = q by omega, show 8 - 8 - (q * 1 + (1 - 1 - r)) * 8 % 8 = r * 8 by omega]
theorem bytes_of (b s : Nat) (ho : okB b s = true) (xs ys : List Nat) (hx : ∀ x ∈ xs, x < 256) (hy : ∀ x ∈ ys, x < 256) (hl : xs.length = s) (hm : ys.length = s) (h : ∀ i, i < mn b s → dg b xs i = dg b ys i) : xs = ys := by
  have hb := ((ok_iff b s).1 ho).1
  have hmn := mn_bd b s ho
  have hcb : 8 / b * b = 8 := by rcases hb with rfl | rfl | rfl | rfl <;> rfl
  have hb0 : 0 < b := by omega
  have hsm : mn b s = s * (8 / b) := by
    have : mn b s * b = s * (8 / b) * b := by rw [hmn.2.2, Nat.mul_assoc, hcb, Nat.mul_comm]
    exact Nat.eq_of_mul_eq_mul_right hb0 this
  apply List.ext_getElem (by omega)
  intro q h1 h2
  have e : xs.getD q 0 = ys.getD q 0 := by
    apply base_eq b (8 / b)
    · rw [Nat.mul_comm, hcb]; rw [List.getD_eq_getElem?_getD, List.getElem?_eq_getElem h1]; exact hx _ (List.getElem_mem h1)
    · rw [Nat.mul_comm, hcb]; rw [List.getD_eq_getElem?_getD, List.getElem?_eq_getElem h2]; exact hy _ (List.getElem_mem h2)
    · intro r hr
      rw [← dg_at b hb xs q r hr, ← dg_at b hb ys q r hr]
      apply h
      rw [hsm]
      have : (q + 1) * (8 / b) ≤ s * (8 / b) := Nat.mul_le_mul_right _ (by omega)
      rw [Nat.succ_mul] at this
      omega
  rw [List.getD_eq_getElem?_getD, List.getElem?_eq_getElem h1, List.getD_eq_getElem?_getD, List.getElem?_eq_getElem h2] at e
  exact e
/-- no digest covers another one -/
theorem covered (b s : Nat) (ho : okB b s = true) (xs ys : List Nat) (hx : ∀ x ∈ xs, x < 256) (hy : ∀ x ∈ ys, x < 256) (hl : xs.length = s) (hm : ys.length = s) (h : ∀ i, i < tot b s → dgs b s xs i ≤ dgs b s ys i) : xs = ys := by
  have h1 : ∀ i, i < mn b s → dg b xs i ≤ dg b ys i := fun i hi => by
    have := h i (by unfold tot; omega)
    unfold dgs at this
    rwa [if_pos hi, if_pos hi] at this
  have h2 : ck b s xs ≤ ck b s ys := base_le b (cd b s) _ _ (ck_lt b s ho xs) (ck_lt b s ho ys) fun j hj => by
    have := h (tot b s - 1 - j) (by unfold tot; omega)
    unfold dgs at this
    rw [if_neg (by unfold tot; omega), if_neg (by unfold tot; omega), show tot b s - 1 - (tot b s - 1 - j) = j by unfold tot; omega] at this
    exact this
  exact bytes_of b s ho xs ys hx hy hl hm (ckTo_eq b xs ys _ h1 h2)
/-- the reference takes a digit bit by bit -/
def bitAt (xs : List Nat) (i : Nat) : Nat := xs.getD (i / 8) 0 / 2 ^ (7 - i % 8) % 2
theorem bit_step (x e k : Nat) : 2 * (x / 2 ^ (e + 1) % 2 ^ k) + x / 2 ^ e % 2 = x / 2 ^ e % 2 ^ (k + 1) := by
  rw [Nat.pow_succ, ← Nat.div_div_eq_div_mul, Nat.pow_succ, Nat.mul_comm (2 ^ k) 2, Nat.mod_mul]; omega
def part (b : Nat) (xs : List Nat) (i k : Nat) : Nat := xs.getD (i * b / 8) 0 / 2 ^ (8 - k - i * b % 8) % 2 ^ k
theorem part_zero (b : Nat) (xs : List Nat) (i : Nat) : part b xs i 0 = 0 := by unfold part; simp [Nat.mod_one]
theorem part_all (b : Nat) (xs : List Nat) (i : Nat) : part b xs i b = dg b xs i := rfl
theorem part_le (b : Nat) (xs : List Nat) (i k : Nat) (h : k ≤ 8) : part b xs i k ≤ 255 := by
  unfold part
  have := Nat.mod_lt (xs.getD (i * b / 8) 0 / 2 ^ (8 - k - i * b % 8)) (Nat.two_pow_pos k)
  have h2 : 2 ^ k ≤ 2 ^ 8 := Nat.pow_le_pow_right (by omega) h
  omega
theorem part_step (b : Nat) (hb : b = 1 ∨ b = 2 ∨ b = 4 ∨ b = 8) (xs : List Nat) (i k : Nat) (hk : k < b) : 2 * part b xs i k + bitAt xs (i * b + k) = part b xs i (k + 1) := by
  unfold part bitAt
  have e1 : (i * b + k) / 8 = i * b / 8 := by rcases hb with rfl | rfl | rfl | rfl <;> omega
  have e2 : i * b % 8 + k < 8 := by rcases hb with rfl | rfl | rfl | rfl <;> omega
  rw [e1, show 8 - k - i * b % 8 = (8 - (k + 1) - i * b % 8) + 1 by omega, show 7 - (i * b + k) % 8 = 8 - (k + 1) - i * b % 8 by omega]
  exact bit_step _ _ _
end Go.Proofs.YtegfbmekpmdcaaaDoor.Ot
