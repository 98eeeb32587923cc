import Derived.Test.YtcnjcfmgkkghjaaGf2
namespace Go.Proofs.Ytcnjcfmgkkghjaa.Pl
open Gf
/-- a coefficient -/
abbrev co (p : List Nat) (i : Nat) : Nat := p.getD i 0
def Ok (p : List Nat) : Prop := ∀ x ∈ p, x < 256
theorem co_lt {p : List Nat} (h : Ok p) (i : Nat) : co p i < 256 := by
  unfold co
  rw [List.getD_eq_getElem?_getD]
  rcases Nat.lt_or_ge i p.length with h2 | h2
  · rw [List.getElem?_eq_getElem h2]; exact h _ (List.getElem_mem _)
  · rw [List.getElem?_eq_none h2]; decide
theorem co_out {p : List Nat} {i : Nat} (h : p.length ≤ i) : co p i = 0 := by
  unfold co
  rw [List.getD_eq_getElem?_getD, List.getElem?_eq_none h]; rfl
theorem co_ext {p q : List Nat} (hl : p.length = q.length) (h : ∀ i, i < p.length → co p i = co q i) : p = q := by
  apply List.ext_getElem hl
  intro i h1 h2
  have := h i h1
  unfold co at this
  rw [List.getD_eq_getElem?_getD, List.getD_eq_getElem?_getD, List.getElem?_eq_getElem h1, List.getElem?_eq_getElem h2] at this
  exact this
/-- the number of coefficients up to the last one among the first n that is not 0 -/
def dn (f : Nat → Nat) : Nat → Nat
  | 0 => 0
  | n + 1 => if f n = 0 then dn f n else n + 1
theorem dn_le (f : Nat → Nat) (n : Nat) : dn f n ≤ n := by
  induction n with
  | zero => exact Nat.le_refl _
  | succ n ih => unfold dn; split <;> omega
theorem dn_zero (f : Nat → Nat) (n : Nat) : ∀ i, dn f n ≤ i → i < n → f i = 0 := by
  induction n with
  | zero => intro i _ h; omega
  | succ n ih =>
    intro i h1 h2
    unfold dn at h1
    split at h1
    · rcases Nat.lt_or_ge i n with h3 | h3
      · exact ih i h1 h3
      · obtain rfl : i = n := by omega
        assumption
    · omega
theorem dn_top (f : Nat → Nat) (n : Nat) (h : 0 < dn f n) : f (dn f n - 1) ≠ 0 := by
  induction n with
  | zero => simp [dn] at h
  | succ n ih =>
    unfold dn at h ⊢
    split
    · rename_i h0
      rw [if_pos h0] at h
      exact ih h
    · rename_i h0
      simpa using h0
/-- the degree and one more -/
def d1 (p : List Nat) : Nat := dn (co p) p.length
theorem d1_le (p : List Nat) : d1 p ≤ p.length := dn_le _ _
theorem d1_zero (p : List Nat) (i : Nat) (h : d1 p ≤ i) : co p i = 0 := by
  rcases Nat.lt_or_ge i p.length with h1 | h1
  · exact dn_zero _ _ i h h1
  · exact co_out h1
theorem d1_top (p : List Nat) (h : 0 < d1 p) : co p (d1 p - 1) ≠ 0 := dn_top _ _ h
theorem d1_unique (p : List Nat) (n : Nat) (h1 : ∀ i, n ≤ i → co p i = 0) (h2 : 0 < n → co p (n - 1) ≠ 0) : d1 p = n := by
  rcases Nat.lt_trichotomy (d1 p) n with h | h | h
  · exact absurd (d1_zero p (n - 1) (by omega)) (h2 (by omega))
  · exact h
  · exact absurd (h1 (d1 p - 1) (by omega)) (d1_top p (by omega))
def trim (p : List Nat) : List Nat := p.take (d1 p)
theorem trim_len (p : List Nat) : (trim p).length = d1 p := by unfold trim; rw [List.length_take]; exact Nat.min_eq_left (d1_le p)
theorem trim_co (p : List Nat) (i : Nat) : co (trim p) i = co p i := by
  unfold trim co
  rw [List.getD_eq_getElem?_getD, List.getD_eq_getElem?_getD, List.getElem?_take]
  split
  · rfl
  · have := d1_zero p i (by omega)
    unfold co at this
    rw [List.getD_eq_getElem?_getD] at this
    rw [this]; rfl
theorem d1_congr {p q : List Nat} (h : ∀ i, co p i = co q i) : d1 p = d1 q :=
  d1_unique p (d1 q) (fun i hi => by rw [h]; exact d1_zero q i hi) (fun h0 => by rw [h]; exact d1_top q h0)
theorem trim_congr {p q : List Nat} (h : ∀ i, co p i = co q i) : trim p = trim q :=
  co_ext (by rw [trim_len, trim_len, d1_congr h]) (fun i _ => by rw [trim_co, trim_co, h])
theorem d1_trim (p : List Nat) : d1 (trim p) = d1 p := d1_congr (trim_co p)
theorem trim_trim (p : List Nat) : trim (trim p) = trim p := trim_congr (trim_co p)
theorem trim_ok {p : List Nat} (h : Ok p) : Ok (trim p) := fun x hx => h x (List.mem_of_mem_take hx)
/-- a polynomial without zeros at its end -/
def Nf (p : List Nat) : Prop := d1 p = p.length
theorem trim_nf (p : List Nat) : Nf (trim p) := by unfold Nf; rw [d1_trim, trim_len]
theorem nf_trim {p : List Nat} (h : Nf p) : trim p = p := by unfold trim; rw [h]; exact List.take_of_length_le (Nat.le_refl _)
theorem nf_ext {p q : List Nat} (hp : Nf p) (hq : Nf q) (h : ∀ i, co p i = co q i) : p = q := by rw [← nf_trim hp, ← nf_trim hq]; exact trim_congr h
/-- the list of the first n values -/
def fn (f : Nat → Nat) (n : Nat) : List Nat := (List.range n).map f
theorem fn_len (f : Nat → Nat) (n : Nat) : (fn f n).length = n := by simp [fn]
theorem fn_co (f : Nat → Nat) (n i : Nat) : co (fn f n) i = if i < n then f i else 0 := by
  unfold fn co
  rw [List.getD_eq_getElem?_getD, List.getElem?_map]
  by_cases h : i < n
  · rw [List.getElem?_range h, if_pos h]; rfl
  · rw [if_neg h, List.getElem?_eq_none (by simpa using h)]; rfl
theorem fn_ok {f : Nat → Nat} {n : Nat} (h : ∀ i, i < n → f i < 256) : Ok (fn f n) := by
  intro x hx
  simp only [fn, List.mem_map, List.mem_range] at hx
  obtain ⟨i, hi, rfl⟩ := hx
  exact h i hi
/-- the sum of the first n values -/
def S (f : Nat → Nat) : Nat → Nat
  | 0 => 0
  | n + 1 => S f n ^^^ f n
theorem S_lt {f : Nat → Nat} {n : Nat} (h : ∀ i, i < n → f i < 256) : S f n < 256 := by
  induction n with
  | zero => show 0 < 256; decide
  | succ n ih => exact xor_lt (ih (fun i hi => h i (by omega))) (h n (by omega))
theorem S_congr {f g : Nat → Nat} {n : Nat} (h : ∀ i, i < n → f i = g i) : S f n = S g n := by
  induction n with
  | zero => rfl
  | succ n ih => show S f n ^^^ f n = S g n ^^^ g n; rw [ih (fun i hi => h i (by omega)), h n (by omega)]
theorem S_zero {f : Nat → Nat} {n : Nat} (h : ∀ i, i < n → f i = 0) : S f n = 0 := by
  induction n with
  | zero => rfl
  | succ n ih => show S f n ^^^ f n = 0; rw [ih (fun i hi => h i (by omega)), h n (by omega)]; rfl
theorem S_xor (f g : Nat → Nat) (n : Nat) : S (fun i => f i ^^^ g i) n = S f n ^^^ S g n := by
  induction n with
  | zero => simp [S]
  | succ n ih => show S _ n ^^^ (f n ^^^ g n) = (S f n ^^^ f n) ^^^ (S g n ^^^ g n); rw [ih, xor4]
theorem S_mul {f : Nat → Nat} {n c : Nat} (hc : c < 256) (h : ∀ i, i < n → f i < 256) : mul c (S f n) = S (fun i => mul c (f i)) n := by
  induction n with
  | zero => exact mul_zero c
  | succ n ih =>
    show mul c (S f n ^^^ f n) = S _ n ^^^ _
    rw [mul_xor hc (S_lt (fun i hi => h i (by omega))) (h n (by omega)), ih (fun i hi => h i (by omega))]
theorem S_mul' {f : Nat → Nat} {n c : Nat} (hc : c < 256) (h : ∀ i, i < n → f i < 256) : mul (S f n) c = S (fun i => mul (f i) c) n := by
  rw [mul_comm (S_lt h) hc, S_mul hc h]
  exact S_congr (fun i hi => mul_comm hc (h i hi))
theorem S_swap (f : Nat → Nat → Nat) (n m : Nat) : S (fun i => S (fun j => f i j) m) n = S (fun j => S (fun i => f i j) n) m := by
  induction n with
  | zero => exact (S_zero (fun _ _ => rfl)).symm
  | succ n ih =>
    show S _ n ^^^ S _ m = _
    rw [ih, ← S_xor]
    rfl
theorem S_more {f : Nat → Nat} {n m : Nat} (h : n ≤ m) (h0 : ∀ i, n ≤ i → i < m → f i = 0) : S f m = S f n := by
  induction m with
  | zero => obtain rfl : n = 0 := by omega
            rfl
  | succ m ih =>
    rcases Nat.lt_or_ge m n with h1 | h1
    · obtain rfl : n = m + 1 := by omega
      rfl
    · show S f m ^^^ f m = _
      rw [ih h1 (fun i h2 h3 => h0 i h2 (by omega)), h0 m h1 (by omega)]
      simp
/-- only one value counts -/
theorem S_one {f : Nat → Nat} {n k : Nat} (hk : k < n) (h : ∀ i, i < n → i ≠ k → f i = 0) : S f n = f k := by
  induction n with
  | zero => omega
  | succ n ih =>
    show S f n ^^^ f n = f k
    rcases Nat.lt_or_ge k n with h1 | h1
    · rw [ih h1 (fun i hi hne => h i (by omega) hne), h n (by omega) (by omega)]; simp
    · obtain rfl : k = n := by omega
      rw [S_zero (fun i hi => h i (by omega) (by omega))]; simp
/-- the coefficient n of a product -/
def cv (f g : Nat → Nat) (n : Nat) : Nat := S (fun i => mul (f i) (g (n - i))) (n + 1)
theorem cv_lt {f g : Nat → Nat} (hf : ∀ i, f i < 256) (n : Nat) : cv f g n < 256 := S_lt (fun i _ => mul_lt _ (hf i))
/-- by pairs: N and M beyond what counts -/
def pr (f g : Nat → Nat) (N M n : Nat) : Nat := S (fun i => S (fun k => if i + k = n then mul (f i) (g k) else 0) M) N
theorem cv_pr (f g : Nat → Nat) (N M n : Nat) (hN : ∀ i, N ≤ i → f i = 0) (hM : ∀ k, M ≤ k → g k = 0) : cv f g n = pr f g N M n := by
  have h1 : ∀ i, S (fun k => if i + k = n then mul (f i) (g k) else 0) M = if i ≤ n then mul (f i) (g (n - i)) else 0 := by
    intro i
    by_cases hi : i ≤ n
    · rw [if_pos hi]
      by_cases hk : n - i < M
      · rw [S_one hk (fun k _ hne => if_neg (by omega)), if_pos (by omega)]
      · rw [S_zero (fun k hk2 => if_neg (by omega)), hM _ (by omega), mul_zero]
    · rw [if_neg hi]
      exact S_zero (fun k _ => if_neg (by omega))
  have e : pr f g N M n = S (fun i => if i ≤ n then mul (f i) (g (n - i)) else 0) N := S_congr (fun i _ => h1 i)
  rw [e]
  have e2 : cv f g n = S (fun i => if i ≤ n then mul (f i) (g (n - i)) else 0) (n + 1) := S_congr (fun i hi => by rw [if_pos (by omega)])
  rw [e2]
  rcases Nat.le_total N (n + 1) with h | h
  · exact S_more h (fun i hi _ => by rw [hN i hi]; split <;> simp [zero_mul])
  · exact (S_more h (fun i hi _ => if_neg (by omega))).symm
theorem cv_comm {f g : Nat → Nat} (hf : ∀ i, f i < 256) (hg : ∀ i, g i < 256) (N M : Nat) (hN : ∀ i, N ≤ i → f i = 0) (hM : ∀ k, M ≤ k → g k = 0) (n : Nat) : cv f g n = cv g f n := by
  rw [cv_pr f g N M n hN hM, cv_pr g f M N n hM hN]
  unfold pr
  rw [S_swap]
  refine S_congr (fun i _ => S_congr (fun k _ => ?_))
  rw [Nat.add_comm, mul_comm (hf k) (hg i)]
theorem cv_xor {f g h : Nat → Nat} (hf : ∀ i, f i < 256) (hg : ∀ i, g i < 256) (hh : ∀ i, h i < 256) (n : Nat) : cv f (fun i => g i ^^^ h i) n = cv f g n ^^^ cv f h n := by
  unfold cv
  rw [← S_xor]
  exact S_congr (fun i _ => mul_xor (hf i) (hg _) (hh _))
theorem xor_cv {f g h : Nat → Nat} (hg : ∀ i, g i < 256) (hh : ∀ i, h i < 256) (n : Nat) : cv (fun i => g i ^^^ h i) f n = cv g f n ^^^ cv h f n := by
  unfold cv
  rw [← S_xor]
  exact S_congr (fun i _ => xor_mul _ (hg i) (hh i))
theorem cv_zero {f g : Nat → Nat} {N M : Nat} (hN : ∀ i, N ≤ i → f i = 0) (hM : ∀ k, M ≤ k → g k = 0) (n : Nat) (h : N + M ≤ n + 1) : cv f g n = 0 := by
  unfold cv
  refine S_zero (fun i _ => ?_)
  rcases Nat.lt_or_ge i N with h1 | h1
  · rw [hM (n - i) (by omega), mul_zero]
  · rw [hN i h1, zero_mul]
theorem cv_top {f g : Nat → Nat} {N M : Nat} (hN : ∀ i, N < i → f i = 0) (hM : ∀ k, M < k → g k = 0) : cv f g (N + M) = mul (f N) (g M) := by
  unfold cv
  rw [S_one (k := N) (by omega) (fun i _ hne => ?_), show N + M - N = M by omega]
  rcases Nat.lt_or_ge i N with h1 | h1
  · rw [hM _ (by omega), mul_zero]
  · rw [hN i (by omega), zero_mul]
/-- no divisors of zero -/
theorem mul_ne {a b : Nat} (ha : a < 256) (hb : b < 256) (h0 : a ≠ 0) (h1 : b ≠ 0) : mul a b ≠ 0 := by
  intro h
  have hi : inv a < 256 := pw_lt a 254
  have e : mul (inv a) (mul a b) = b := by rw [mul_assoc hi ha hb, mul_comm hi ha, mul_inv ha h0, one_mul hb]
  rw [h, mul_zero] at e
  exact h1 e.symm
theorem S_if (c : Prop) [Decidable c] (f : Nat → Nat) (n : Nat) : S (fun i => if c then f i else 0) n = if c then S f n else 0 := by
  by_cases h : c
  · simp [h]
  · simp [h, S_zero]
/-- products are associative: both are the sum over three indices -/
theorem cv_assoc {f g h : Nat → Nat} (hf : ∀ i, f i < 256) (hg : ∀ i, g i < 256) (hh : ∀ i, h i < 256) (N M L : Nat) (hN : ∀ i, N ≤ i → f i = 0) (hM : ∀ k, M ≤ k → g k = 0) (hL : ∀ k, L ≤ k → h k = 0) (n : Nat) :
    cv f (cv g h) n = cv (cv f g) h n := by
  have hgh : ∀ k, M + L ≤ k → cv g h k = 0 := fun k hk => cv_zero hM hL k (by omega)
  have hfg : ∀ k, N + M ≤ k → cv f g k = 0 := fun k hk => cv_zero hN hM k (by omega)
  have e1 : cv f (cv g h) n = S (fun i => S (fun k => S (fun l => if i + k + l = n then mul (f i) (mul (g k) (h l)) else 0) L) M) N := by
    rw [cv_pr f (cv g h) N (M + L) n hN hgh]
    refine S_congr (fun i _ => ?_)
    have e : ∀ m, (if i + m = n then mul (f i) (cv g h m) else 0) = S (fun k => S (fun l => if k + l = m then (if i + m = n then mul (f i) (mul (g k) (h l)) else 0) else 0) L) M := by
      intro m
      rw [cv_pr g h M L m hM hL]
      by_cases hm : i + m = n
      · simp only [if_pos hm]
        unfold pr
        rw [S_mul (hf i) (fun k _ => S_lt (fun l _ => by split <;> first | exact mul_lt _ (hg k) | decide))]
        refine S_congr (fun k _ => ?_)
        rw [S_mul (hf i) (fun l _ => by split <;> first | exact mul_lt _ (hg k) | decide)]
        refine S_congr (fun l _ => ?_)
        split
        · rfl
        · exact mul_zero _
      · simp only [if_neg hm]
        exact (S_zero (fun k _ => S_zero (fun l _ => by split <;> rfl))).symm
    rw [S_congr (fun m _ => e m), S_swap]
    refine S_congr (fun k hk => ?_)
    rw [S_swap]
    refine S_congr (fun l hl => ?_)
    rw [S_one (k := k + l) (by omega) (fun m _ hne => if_neg (fun e => hne e.symm)), if_pos rfl, Nat.add_assoc]
  have e2 : cv (cv f g) h n = S (fun i => S (fun k => S (fun l => if i + k + l = n then mul (f i) (mul (g k) (h l)) else 0) L) M) N := by
    rw [cv_pr (cv f g) h (N + M) L n hfg hL]
    have e : ∀ m, S (fun l => if m + l = n then mul (cv f g m) (h l) else 0) L = S (fun i => S (fun k => S (fun l => if i + k = m then (if m + l = n then mul (f i) (mul (g k) (h l)) else 0) else 0) L) M) N := by
      intro m
      have e3 : ∀ l, (if m + l = n then mul (cv f g m) (h l) else 0) = S (fun i => S (fun k => if i + k = m then (if m + l = n then mul (f i) (mul (g k) (h l)) else 0) else 0) M) N := by
        intro l
        rw [cv_pr f g N M m hN hM]
        by_cases hm : m + l = n
        · simp only [if_pos hm]
          unfold pr
          rw [S_mul' (hh l) (fun i _ => S_lt (fun k _ => by split <;> first | exact mul_lt _ (hf i) | decide))]
          refine S_congr (fun i _ => ?_)
          rw [S_mul' (hh l) (fun k _ => by split <;> first | exact mul_lt _ (hf i) | decide)]
          refine S_congr (fun k _ => ?_)
          split
          · exact (mul_assoc (hf i) (hg k) (hh l)).symm
          · exact zero_mul _
        · simp only [if_neg hm]
          exact (S_zero (fun i _ => S_zero (fun k _ => by split <;> rfl))).symm
      rw [S_congr (fun l _ => e3 l), S_swap]
      refine S_congr (fun i _ => ?_)
      rw [S_swap]
    unfold pr
    rw [S_congr (fun m _ => e m), S_swap]
    refine S_congr (fun i hi => ?_)
    rw [S_swap]
    refine S_congr (fun k hk => ?_)
    rw [S_swap]
    refine S_congr (fun l _ => ?_)
    rw [S_one (k := i + k) (by omega) (fun m _ hne => if_neg (fun e => hne e.symm)), if_pos rfl]
  rw [e1, e2]
end Go.Proofs.Ytcnjcfmgkkghjaa.Pl
