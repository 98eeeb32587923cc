import Init
namespace Go.Proofs.YtneiglhcfgnclaaDoor.Rh
def n64 : Nat := 18446744073709551616
/-- rotated to the left by one bit, by n bits -/
def rot1 (x : Nat) : Nat := (x * 2 % 18446744073709551616) ||| (x / 2 ^ 63)
def rot (x : Nat) : Nat → Nat
  | 0 => x
  | n + 1 => rot1 (rot x n)
def n0 (s i : Nat) : Nat := (s + (i + 1) * 11400714819323198485 % 18446744073709551616) % 18446744073709551616
def n1 (z : Nat) : Nat := (z ^^^ (z / 2 ^ 30)) * 13787848793156543929 % 18446744073709551616
def n2 (z : Nat) : Nat := (z ^^^ (z / 2 ^ 27)) * 10723151780598845931 % 18446744073709551616
def n3 (z : Nat) : Nat := z ^^^ (z / 2 ^ 31)
/-- the number of a byte in the table of a seed -/
def num (s i : Nat) : Nat := n3 (n2 (n1 (n0 s i)))
/-- the hash -/
def hsh (T : Nat → Nat) (bs : List Nat) : Nat := bs.foldl (fun a b => rot1 a ^^^ T b) 0
/-- the last n elements -/
def last (n : Nat) (bs : List Nat) : List Nat := bs.drop (bs.length - n)
theorem xor_lt {a b : Nat} (ha : a < 18446744073709551616) (hb : b < 18446744073709551616) : a ^^^ b < 18446744073709551616 := Nat.xor_lt_two_pow (n := 64) ha hb
theorem or_lt {a b : Nat} (ha : a < 18446744073709551616) (hb : b < 18446744073709551616) : a ||| b < 18446744073709551616 := Nat.or_lt_two_pow (n := 64) ha hb
theorem rot1_lt {x : Nat} (h : x < 18446744073709551616) : rot1 x < 18446744073709551616 := or_lt (Nat.mod_lt _ (by decide)) (Nat.lt_of_le_of_lt (Nat.div_le_self _ _) h)
theorem rot_lt {x : Nat} (h : x < 18446744073709551616) : ∀ n, rot x n < 18446744073709551616
  | 0 => h
  | n + 1 => rot1_lt (rot_lt h n)
theorem rot1_bit (x i : Nat) : (rot1 x).testBit i = ((decide (i < 64) && (decide (1 ≤ i) && x.testBit (i - 1))) || x.testBit (63 + i)) := by
  have e : x * 2 = x <<< 1 := by rw [Nat.shiftLeft_eq]
  unfold rot1
  rw [Nat.testBit_or, show (18446744073709551616 : Nat) = 2 ^ 64 from rfl, Nat.testBit_mod_two_pow, e, Nat.testBit_shiftLeft, Nat.testBit_div_two_pow]
  rw [Nat.add_comm i 63]
theorem rot1_xor (x y : Nat) (hx : x < 18446744073709551616) (hy : y < 18446744073709551616) : rot1 (x ^^^ y) = rot1 x ^^^ rot1 y := by
  apply Nat.eq_of_testBit_eq
  intro i
  rw [Nat.testBit_xor, rot1_bit, rot1_bit, rot1_bit, Nat.testBit_xor, Nat.testBit_xor]
  by_cases h0 : i = 0
  · subst h0; simp
  · have hx0 : x.testBit (63 + i) = false := Nat.testBit_lt_two_pow (Nat.lt_of_lt_of_le hx (by rw [show (18446744073709551616 : Nat) = 2 ^ 64 from rfl]; exact Nat.pow_le_pow_right (by decide) (by omega)))
    have hy0 : y.testBit (63 + i) = false := Nat.testBit_lt_two_pow (Nat.lt_of_lt_of_le hy (by rw [show (18446744073709551616 : Nat) = 2 ^ 64 from rfl]; exact Nat.pow_le_pow_right (by decide) (by omega)))
    rw [hx0, hy0]
    by_cases h1 : i < 64
    · have : 1 ≤ i := by omega
      simp [h1, this]
    · simp [h1]
theorem rot1_zero : rot1 0 = 0 := by decide
theorem rot_zero : ∀ n, rot 0 n = 0
  | 0 => rfl
  | n + 1 => by rw [rot, rot_zero n, rot1_zero]
theorem rot_xor (x y : Nat) (hx : x < 18446744073709551616) (hy : y < 18446744073709551616) : ∀ n, rot (x ^^^ y) n = rot x n ^^^ rot y n
  | 0 => rfl
  | n + 1 => by rw [rot, rot_xor x y hx hy n, rot1_xor _ _ (rot_lt hx n) (rot_lt hy n)]; rfl
theorem rot_add (x a : Nat) : ∀ b, rot x (a + b) = rot (rot x a) b
  | 0 => rfl
  | b + 1 => by rw [← Nat.add_assoc, rot, rot_add x a b]; rfl
theorem rot_one (x : Nat) : rot x 1 = rot1 x := rfl
theorem rot_succ' (x n : Nat) : rot x (n + 1) = rot (rot1 x) n := by rw [Nat.add_comm, rot_add]; rfl
/-- the closed form -/
theorem rot_bit {x : Nat} (hx : x < 18446744073709551616) : ∀ n, n ≤ 64 → ∀ i, (rot x n).testBit i = ((decide (i < 64) && (decide (n ≤ i) && x.testBit (i - n))) || (decide (i < n) && x.testBit (64 - n + i)))
  | 0, _, i => by
    rw [rot]
    by_cases h : i < 64
    · simp [h]
    · have : x.testBit i = false := Nat.testBit_lt_two_pow (Nat.lt_of_lt_of_le hx (by rw [show (18446744073709551616 : Nat) = 2 ^ 64 from rfl]; exact Nat.pow_le_pow_right (by decide) (by omega)))
      simp [h, this]
  | n + 1, hn, i => by
    rw [rot, rot1_bit, rot_bit hx n (by omega), rot_bit hx n (by omega)]
    by_cases h0 : i = 0
    · subst h0
      have e : 63 + 0 - n = 64 - (n + 1) + 0 := by omega
      have h1 : n ≤ 63 := by omega
      have h2 : ¬ 63 < n := by omega
      simp [h1, h2]
    · have h3 : ¬ 63 + i < 64 := by omega
      have h4 : ¬ 63 + i < n := by omega
      have h5 : 1 ≤ i := by omega
      have h6 : (i - 1 < n) = (i < n + 1) := by simp; omega
      have h7 : (n ≤ i - 1) = (n + 1 ≤ i) := by simp; omega
      have h8 : i - 1 - n = i - (n + 1) := by omega
      have h10 : (n + 1 ≤ i → i - 1 - n = i - (n + 1)) := by omega
      simp only [h3, h4, h5, h6, h7, h8]
      by_cases h9 : i < 64
      · have h11 : i - 1 < 64 := by omega
        simp [h9, h11]
        by_cases h12 : i < n + 1
        · have : 64 - n + (i - 1) = 64 - (n + 1) + i := by omega
          simp [this]
        · simp [h12]
      · have h12 : ¬ i < n + 1 := by omega
        simp [h9, h12]
theorem rl_eq {x n : Nat} (hx : x < 18446744073709551616) (hn : n ≤ 64) : (x * 2 ^ n % 18446744073709551616) ||| (x / 2 ^ (64 - n)) = rot x n := by
  apply Nat.eq_of_testBit_eq
  intro i
  rw [rot_bit hx n hn]
  rw [Nat.testBit_or, show (18446744073709551616 : Nat) = 2 ^ 64 from rfl, Nat.testBit_mod_two_pow, ← Nat.shiftLeft_eq, Nat.testBit_shiftLeft, Nat.testBit_div_two_pow]
  by_cases h : i < n
  · have e : i + (64 - n) = 64 - n + i := by omega
    have e2 : ¬ n ≤ i := by omega
    simp [h, e, e2]
  · have : x.testBit (i + (64 - n)) = false := Nat.testBit_lt_two_pow (Nat.lt_of_lt_of_le hx (by rw [show (18446744073709551616 : Nat) = 2 ^ 64 from rfl]; exact Nat.pow_le_pow_right (by decide) (by omega)))
    rw [this]
    simp [h, ge_iff_le]
theorem rot_64 {x : Nat} (hx : x < 18446744073709551616) : rot x 64 = x := by
  rw [← rl_eq hx (Nat.le_refl _), show (18446744073709551616 : Nat) = 2 ^ 64 from rfl, Nat.mul_mod_left]; simp
theorem n3_lt {z : Nat} (h : z < 18446744073709551616) : n3 z < 18446744073709551616 := xor_lt h (Nat.lt_of_le_of_lt (Nat.div_le_self _ _) h)
theorem num_lt (s i : Nat) : num s i < 18446744073709551616 := n3_lt (Nat.mod_lt _ (by decide))
section
variable {T : Nat → Nat} (hT : ∀ i, T i < 18446744073709551616)
include hT
theorem foldl_lt (bs : List Nat) : ∀ a, a < 18446744073709551616 → bs.foldl (fun a b => rot1 a ^^^ T b) a < 18446744073709551616 := by
  induction bs with
  | nil => intro a h; exact h
  | cons b t ih => intro a h; exact ih _ (xor_lt (rot1_lt h) (hT b))
theorem hsh_lt (bs : List Nat) : hsh T bs < 18446744073709551616 := foldl_lt hT bs 0 (by decide)
theorem foldl_rot (bs : List Nat) : ∀ a, a < 18446744073709551616 → bs.foldl (fun a b => rot1 a ^^^ T b) a = rot a bs.length ^^^ bs.foldl (fun a b => rot1 a ^^^ T b) 0 := by
  induction bs with
  | nil => intro a _; simp [rot]
  | cons b t ih =>
    intro a h
    rw [List.foldl_cons, List.foldl_cons, ih _ (xor_lt (rot1_lt h) (hT b)), ih (rot1 0 ^^^ T b) (xor_lt (by decide) (hT b)), rot1_zero, Nat.zero_xor, List.length_cons, rot_succ', rot_xor _ _ (rot1_lt h) (hT b), Nat.xor_assoc]
theorem hsh_append (a b : List Nat) : hsh T (a ++ b) = rot (hsh T a) b.length ^^^ hsh T b := by
  unfold hsh
  rw [List.foldl_append, foldl_rot hT b _ (foldl_lt hT a 0 (by decide))]
omit hT in
theorem hsh_one (b : Nat) : hsh T [b] = T b := by
  show rot1 0 ^^^ T b = T b
  rw [rot1_zero, Nat.zero_xor]
omit hT in
theorem hsh_snoc (a : List Nat) (b : Nat) : hsh T (a ++ [b]) = rot1 (hsh T a) ^^^ T b := by
  unfold hsh
  rw [List.foldl_append]; rfl
theorem hsh_cons (o : Nat) (r : List Nat) : hsh T (o :: r) = rot (T o) r.length ^^^ hsh T r := by
  have := hsh_append hT [o] r
  rw [hsh_one] at this
  exact this
/-- a step of the reference's sum -/
theorem sum_step (bs : List Nat) (i : Nat) (hi : i < bs.length) : rot (hsh T (bs.take (i + 1))) (bs.length - (i + 1)) = rot (hsh T (bs.take i)) (bs.length - i) ^^^ rot (T (bs.getD i 0)) (bs.length - 1 - i) := by
  have e : bs.take (i + 1) = bs.take i ++ [bs.getD i 0] := by
    rw [List.take_add_one, List.getD_eq_getElem?_getD, List.getElem?_eq_getElem hi]; rfl
  obtain ⟨m, hm⟩ : ∃ m, bs.length - i = m + 1 := ⟨bs.length - i - 1, by omega⟩
  rw [e, hsh_snoc, show bs.length - (i + 1) = m by omega, hm, show bs.length - 1 - i = m by omega, rot_xor _ _ (rot1_lt (hsh_lt hT _)) (hT _), rot_succ']
omit hT in
theorem last_lt (n : Nat) (ys : List Nat) (b : Nat) (h : ys.length < n) : last n (ys ++ [b]) = last n ys ++ [b] := by
  unfold last
  rw [show (ys ++ [b]).length - n = 0 by simp; omega, show ys.length - n = 0 by omega]; rfl
omit hT in
theorem last_cons (n : Nat) (ys : List Nat) (h : n + 1 ≤ ys.length) : last (n + 1) ys = ys.getD (ys.length - (n + 1)) 0 :: last n ys := by
  unfold last
  rw [List.drop_eq_getElem_cons (by omega), List.getD_eq_getElem?_getD, List.getElem?_eq_getElem (by omega), show ys.length - (n + 1) + 1 = ys.length - n by omega]; rfl
omit hT in
theorem last_snoc (n : Nat) (ys : List Nat) (b : Nat) (h : n + 1 ≤ ys.length) : last (n + 1) (ys ++ [b]) = last n ys ++ [b] := by
  unfold last
  rw [List.length_append, List.length_singleton, show ys.length + 1 - (n + 1) = ys.length - n by omega, List.drop_append_of_le_length (by omega)]
omit hT in
theorem last_len (n : Nat) (ys : List Nat) : (last n ys).length = min ys.length n := by unfold last; rw [List.length_drop]; omega
omit hT in
theorem push_lt (n : Nat) (ys : List Nat) (b : Nat) (h : ys.length < n) : hsh T (last n (ys ++ [b])) = rot1 (hsh T (last n ys)) ^^^ T b := by
  rw [last_lt n ys b h, hsh_snoc]
theorem push_ge (n : Nat) (ys : List Nat) (b : Nat) (h0 : 1 ≤ n) (h : n ≤ ys.length) : hsh T (last n (ys ++ [b])) = (rot1 (hsh T (last n ys)) ^^^ T b) ^^^ rot (T (ys.getD (ys.length - n) 0)) n := by
  obtain ⟨m, rfl⟩ : ∃ m, n = m + 1 := ⟨n - 1, by omega⟩
  rw [last_snoc m ys b h, hsh_snoc, last_cons m ys h, hsh_cons hT, last_len, Nat.min_eq_right (by omega), rot1_xor _ _ (rot_lt (hT _) _) (hsh_lt hT _)]
  show _ = ((rot (T _) (m + 1) ^^^ rot1 _) ^^^ T b) ^^^ rot (T _) (m + 1)
  generalize rot (T _) (m + 1) = a
  generalize rot1 _ = c
  rw [Nat.xor_assoc a c, Nat.xor_comm a, Nat.xor_assoc (c ^^^ T b), Nat.xor_self, Nat.xor_zero]
end
/-- the ring holds the last 64 bytes -/
def Ring (R : Nat → Nat) (ys : List Nat) : Prop := ∀ p, p < ys.length → ys.length ≤ p + 64 → R (p % 64) = ys.getD p 0
theorem Ring.nil (R : Nat → Nat) : Ring R [] := fun _ hp => absurd hp (Nat.not_lt_zero _)
theorem Ring.push {R : Nat → Nat} {ys : List Nat} (h : Ring R ys) (b : Nat) : Ring (fun i => if i = ys.length % 64 then b else R i) (ys ++ [b]) := by
  intro p hp h2
  rw [List.length_append, List.length_singleton] at hp h2
  show (if p % 64 = ys.length % 64 then b else R (p % 64)) = _
  by_cases e : p = ys.length
  · subst e
    rw [if_pos rfl, List.getD_eq_getElem?_getD, List.getElem?_append_right (Nat.le_refl _)]; simp
  · rw [if_neg (by omega), h p (by omega) (by omega), List.getD_eq_getElem?_getD, List.getD_eq_getElem?_getD, List.getElem?_append_left (by omega)]
end Go.Proofs.YtneiglhcfgnclaaDoor.Rh
