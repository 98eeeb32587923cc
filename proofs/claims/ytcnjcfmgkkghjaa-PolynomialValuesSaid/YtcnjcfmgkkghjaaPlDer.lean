import Derived.Test.YtcnjcfmgkkghjaaPlSh
namespace Go.Proofs.Ytcnjcfmgkkghjaa
open Go.RowKit
/-- the derivative's coefficients -/
def dfn (f : Nat → Nat) (i : Nat) : Nat := if i % 2 = 0 then f (i + 1) else 0
def der (p : List Nat) : List Nat := Pl.fn (dfn (Pl.co p)) p.length
theorem dfn_lt {f : Nat → Nat} (hf : ∀ i, f i < 256) (i : Nat) : dfn f i < 256 := by unfold dfn; split <;> first | exact hf _ | decide
theorem der_lt {p : List Nat} (hp : ∀ i, p.getD i 0 < 256) (i : Nat) : (der p).getD i 0 < 256 := fn_lt (dfn_lt hp) _ i
theorem der_co (p : List Nat) (i : Nat) : Pl.co (der p) i = dfn (Pl.co p) i := by
  unfold der
  rw [Pl.fn_co]
  by_cases h : i < p.length
  · rw [if_pos h]
  · rw [if_neg h]
    unfold dfn
    rw [Pl.co_out (p := p) (by omega)]; simp
theorem der_add {A B C : List Nat} (h : ∀ i, Pl.co C i = Pl.co A i ^^^ Pl.co B i) (i : Nat) : Pl.co (der C) i = Pl.co (der A) i ^^^ Pl.co (der B) i := by
  rw [der_co, der_co, der_co]
  unfold dfn
  split
  · exact h _
  · rfl
theorem dfn_cv (f g : Nat → Nat) (n : Nat) : dfn (Pl.cv f g) n = Pl.cv (dfn f) g n ^^^ Pl.cv f (dfn g) n := by
  let G : Nat → Nat := fun i => if i % 2 = 1 then Gf.mul (f i) (g (n + 1 - i)) else 0
  let H : Nat → Nat := fun i => if (n + 1 - i) % 2 = 1 then Gf.mul (f i) (g (n + 1 - i)) else 0
  have e1 : Pl.cv (dfn f) g n = Pl.S G (n + 2) := by
    rw [Pl.S_shift G (n + 1)]
    have g0 : G 0 = 0 := rfl
    rw [g0, Nat.zero_xor]
    refine Pl.S_congr (fun i hi => ?_)
    show Gf.mul (if i % 2 = 0 then f (i + 1) else 0) (g (n - i)) = if (i + 1) % 2 = 1 then Gf.mul (f (i + 1)) (g (n + 1 - (i + 1))) else 0
    by_cases h : i % 2 = 0
    · rw [if_pos h, if_pos (by omega), Nat.add_sub_add_right]
    · rw [if_neg h, if_neg (by omega), Gf.zero_mul]
  have e2 : Pl.cv f (dfn g) n = Pl.S H (n + 2) := by
    show _ = Pl.S H (n + 1) ^^^ H (n + 1)
    have h0 : H (n + 1) = 0 := by show (if (n + 1 - (n + 1)) % 2 = 1 then _ else 0) = 0; rw [Nat.sub_self]; rfl
    rw [h0, Nat.xor_zero]
    refine Pl.S_congr (fun i hi => ?_)
    show Gf.mul (f i) (if (n - i) % 2 = 0 then g (n - i + 1) else 0) = if (n + 1 - i) % 2 = 1 then Gf.mul (f i) (g (n + 1 - i)) else 0
    by_cases h : (n - i) % 2 = 0
    · rw [if_pos h, if_pos (by omega), show n + 1 - i = n - i + 1 by omega]
    · rw [if_neg h, if_neg (by omega), Gf.mul_zero]
  rw [e1, e2, ← Pl.S_xor]
  show (if n % 2 = 0 then Pl.S (fun i => Gf.mul (f i) (g (n + 1 - i))) (n + 2) else 0) = _
  by_cases h : n % 2 = 0
  · rw [if_pos h]
    refine Pl.S_congr (fun i hi => ?_)
    show _ = (if i % 2 = 1 then _ else 0) ^^^ (if (n + 1 - i) % 2 = 1 then _ else 0)
    by_cases h1 : i % 2 = 1
    · rw [if_pos h1, if_neg (by omega), Nat.xor_zero]
    · rw [if_neg h1, if_pos (by omega), Nat.zero_xor]
  · rw [if_neg h]
    refine (Pl.S_zero (fun i hi => ?_)).symm
    show (if i % 2 = 1 then _ else 0) ^^^ (if (n + 1 - i) % 2 = 1 then _ else 0) = 0
    by_cases h1 : i % 2 = 1
    · rw [if_pos h1, if_pos (by omega), Nat.xor_self]
    · rw [if_neg h1, if_neg (by omega)]; rfl
/-- the derivative's value is the value of the quotient by x + r -/
theorem der_sd {r : Nat} (hr : r < 256) : ∀ p : List Nat, Pl.Ok p → Pl.ev (dfn (Pl.co p)) r p.length = Pl.hor r (sd r p)
  | [], _ => rfl
  | c :: t, h => by
    have ht : Pl.Ok t := fun z hz => h z (List.mem_cons_of_mem _ hz)
    have ih := der_sd hr t ht
    have hco : ∀ i, Pl.co t i < 256 := Pl.co_lt ht
    have e : Pl.hor r (sd r (c :: t)) = Gf.mul (Pl.hor r (sd r t)) r ^^^ Pl.hor r t := by
      cases t with
      | nil => show 0 = Gf.mul 0 r ^^^ 0; rw [Gf.zero_mul]; rfl
      | cons d u => rfl
    rw [e, ← ih, Pl.hor_ev hr t ht]
    have e1 : Pl.ev (dfn (Pl.co (c :: t))) r (c :: t).length = Pl.S (fun i => if i % 2 = 0 then Gf.mul (Pl.co t i) (Gf.pw r i) else 0) (t.length + 1) := by
      refine Pl.S_congr (fun i _ => ?_)
      show Gf.mul (if i % 2 = 0 then Pl.co t i else 0) _ = _
      by_cases h1 : i % 2 = 0
      · rw [if_pos h1, if_pos h1]
      · rw [if_neg h1, if_neg h1, Gf.zero_mul]
    have e2 : Gf.mul (Pl.ev (dfn (Pl.co t)) r t.length) r = Pl.S (fun i => if i % 2 = 1 then Gf.mul (Pl.co t i) (Gf.pw r i) else 0) (t.length + 1) := by
      rw [Pl.S_shift]
      show _ = (if 0 % 2 = 1 then _ else 0) ^^^ _
      rw [if_neg (by decide), Nat.zero_xor]
      unfold Pl.ev
      rw [Pl.S_mul' hr (fun i _ => Gf.mul_lt _ (dfn_lt hco i))]
      refine Pl.S_congr (fun i _ => ?_)
      show Gf.mul (Gf.mul (if i % 2 = 0 then Pl.co t (i + 1) else 0) (Gf.pw r i)) r = if (i + 1) % 2 = 1 then Gf.mul (Pl.co t (i + 1)) (Gf.mul (Gf.pw r i) r) else 0
      by_cases h1 : i % 2 = 0
      · rw [if_pos h1, if_pos (by omega), Gf.mul_assoc (hco _) (Gf.pw_lt _ _) hr]
      · rw [if_neg h1, if_neg (by omega), Gf.zero_mul, Gf.zero_mul]
    have e3 : Pl.ev (Pl.co t) r t.length = Pl.S (fun i => Gf.mul (Pl.co t i) (Gf.pw r i)) (t.length + 1) :=
      (Pl.ev_more (m := t.length + 1) (Nat.le_succ _) (fun i hi => Pl.co_out hi)).symm
    rw [e1, e2, e3, ← Pl.S_xor]
    refine Pl.S_congr (fun i _ => ?_)
    show (if i % 2 = 0 then _ else 0) = (if i % 2 = 1 then _ else 0) ^^^ _
    by_cases h1 : i % 2 = 0
    · rw [if_pos h1, if_neg (by omega), Nat.zero_xor]
    · rw [if_neg h1, if_pos (by omega), Nat.xor_self]
/-- how often x + r divides, told by the shifted polynomial -/
structure MultIs (xs : List Nat) (r m : Nat) (T : List Nat) : Prop where
  len : T.length ≤ 64
  lt : ∀ i, T.getD i 0 < 256
  hor : ∀ y, y < 256 → Pl.hor y T = Pl.hor (y ^^^ r) xs
  low : ∀ i, i < m → Pl.co T i = 0
  top : Pl.co T m ≠ 0
theorem hor_at0 {T : List Nat} : Pl.hor 0 T = Pl.co T 0 := by
  cases T with
  | nil => rfl
  | cons c t => show Gf.mul _ 0 ^^^ c = c; rw [Gf.mul_zero, Nat.zero_xor]
theorem MultIs.root {xs : List Nat} {r m : Nat} {T : List Nat} (h : MultIs xs r m T) : Pl.hor r xs = 0 ↔ 0 < m := by
  have e : Pl.co T 0 = Pl.hor r xs := by rw [← hor_at0, h.hor 0 (by decide), Nat.zero_xor]
  rw [← e]
  constructor
  · intro h0
    rcases Nat.eq_zero_or_pos m with hm | hm
    · exact absurd (hm ▸ h0) h.top
    · exact hm
  · intro hm; exact h.low 0 hm
theorem MultIs.multi {xs : List Nat} {r m : Nat} {T : List Nat} (h : MultIs xs r m T) (hr : r < 256) (hx : ∀ i, xs.getD i 0 < 256) (hl : xs.length ≤ 64) (h0 : Pl.hor r xs = 0) : Pl.hor r (sd r xs) = 0 ↔ 1 < m := by
  have hQ : ∀ i, (sd r xs).getD i 0 < 256 := fun i => Pl.co_lt (sd_ok xs (ok_of hx)) i
  have hQl : (sd r xs).length ≤ 64 := by rw [sd_len]; omega
  have hS := shL_lt (r := r) hQ 6
  have hSl : (shL r (sd r xs) 6).length ≤ 64 := by unfold shL; rw [Pl.fn_len]; exact hQl
  have hZ : ∀ i, (0 :: shL r (sd r xs) 6).getD i 0 < 256 := fun i => by
    cases i with
    | zero => show 0 < 256; decide
    | succ i => exact hS i
  have e : Pl.trim T = Pl.trim (0 :: shL r (sd r xs) 6) := by
    refine same_values (n := 200) (fun i => i) h.lt hZ (d1_le2 _ (Nat.le_trans h.len (by decide))) (d1_le2 _ (by simp; omega)) (fun i hi => by show i < 256; omega) (fun i j hij hj => by show i ≠ j; omega) (fun i hi => ?_)
    have hi2 : i < 256 := by omega
    have hz := Gf.xor_lt hi2 hr
    show Pl.hor i T = Gf.mul (Pl.hor i (shL r (sd r xs) 6)) i ^^^ 0
    rw [h.hor i hi2, sd_hor hr hz xs (ok_of hx), h0, Nat.xor_zero, Nat.xor_zero, shL_hor hi2 hr hQ 6 (by simpa using hQl), Nat.xor_assoc, Nat.xor_self, Nat.xor_zero]
  have e1 : Pl.co T 1 = Pl.hor r (sd r xs) := by
    have h1 := congrArg (fun l => Pl.co l 1) e
    simp only [Pl.trim_co] at h1
    rw [h1]
    show Pl.co (shL r (sd r xs) 6) 0 = _
    rw [← hor_at0, shL_hor (by decide) hr hQ 6 (by simpa using hQl), Nat.zero_xor]
  rw [← e1]
  have hm := h.root.1 h0
  constructor
  · intro h1
    rcases Nat.lt_or_ge 1 m with h2 | h2
    · exact h2
    · obtain rfl : m = 1 := by omega
      exact absurd h1 h.top
  · intro h1; exact h.low 1 h1
theorem MultIs.derv {xs : List Nat} {r m : Nat} {T : List Nat} (h : MultIs xs r m T) (hr : r < 256) (hx : ∀ i, xs.getD i 0 < 256) (hl : xs.length ≤ 64) (h0 : Pl.hor r xs = 0) : Pl.hor r (der xs) = 0 ↔ 1 < m := by
  rw [← h.multi hr hx hl h0, ← der_sd hr xs (ok_of hx), Pl.hor_ev hr _ (ok_of (der_lt hx))]
  have e : Pl.ev (Pl.co (der xs)) r (der xs).length = Pl.ev (dfn (Pl.co xs)) r xs.length := by
    unfold der
    rw [Pl.fn_len]
    exact Pl.S_congr (fun i hi => by rw [Pl.fn_co, if_pos hi])
  rw [e]
/-- the shifted polynomial tells it -/
theorem mult_is {xs : List Nat} {r j : Nat} (hr : r < 256) (hx : ∀ i, xs.getD i 0 < 256) (hl : xs.length ≤ 64) (h0 : 0 < Pl.d1 xs) (hj : (Pl.trim xs).length ≤ 2 ^ j) : ∃ m, m < (shL r (Pl.trim xs) j).length ∧ MultIs xs r m (shL r (Pl.trim xs) j) := by
  have ht : ∀ i, (Pl.trim xs).getD i 0 < 256 := co_trim_lt hx
  have hT := shL_lt (r := r) ht j
  have hTl : (shL r (Pl.trim xs) j).length ≤ 64 := by unfold shL; rw [Pl.fn_len]; exact trim_le hl
  have hh : ∀ y, y < 256 → Pl.hor y (shL r (Pl.trim xs) j) = Pl.hor (y ^^^ r) xs := fun y hy => by
    have hz := Gf.xor_lt hy hr
    rw [shL_hor hy hr ht j hj, Pl.hor_ev hz _ (ok_of ht), hor_n hz hx (Nat.le_refl _), Pl.trim_len]
    rw [ev_congr (Pl.trim_co xs)]
    exact (Pl.ev_more (Pl.d1_le xs) (fun i hi => Pl.d1_zero xs i hi)).symm
  have hex : ∃ m, Pl.co (shL r (Pl.trim xs) j) m ≠ 0 := by
    refine Classical.byContradiction (fun hn => ?_)
    have hz : ∀ i, Pl.co (shL r (Pl.trim xs) j) i = 0 := fun i => Classical.byContradiction (fun h => hn ⟨i, h⟩)
    have hv : ∀ y, y < 256 → Pl.hor y xs = 0 := fun y hy => by
      have h1 := hh (y ^^^ r) (Gf.xor_lt hy hr)
      rw [Nat.xor_assoc, Nat.xor_self, Nat.xor_zero] at h1
      rw [← h1, Pl.hor_ev (Gf.xor_lt hy hr) _ (ok_of hT)]
      exact Pl.S_zero (fun i _ => by rw [hz, Gf.zero_mul])
    have e := same_values (A := xs) (B := []) (n := 200) (fun i => i) hx (fun i => by simp) (d1_le2 _ (by omega)) (d1_le2 _ (Nat.zero_le _)) (fun i hi => by show i < 256; omega) (fun i k hik hk => by show i ≠ k; omega) (fun i hi => by rw [hv i (by omega)]; rfl)
    have e2 := congrArg List.length e
    rw [Pl.trim_len, Pl.trim_len] at e2
    have : Pl.d1 [] = 0 := rfl
    omega
  obtain ⟨m, hm, hlow⟩ : ∃ m, Pl.co (shL r (Pl.trim xs) j) m ≠ 0 ∧ ∀ i, i < m → Pl.co (shL r (Pl.trim xs) j) i = 0 := by
    obtain ⟨m, hm⟩ := hex
    induction m using Nat.strongRecOn with
    | ind m ih =>
      by_cases h : ∃ i, i < m ∧ Pl.co (shL r (Pl.trim xs) j) i ≠ 0
      · obtain ⟨i, h1, h2⟩ := h; exact ih i h1 h2
      · exact ⟨m, hm, fun i hi => Classical.byContradiction (fun h2 => h ⟨i, hi, h2⟩)⟩
  refine ⟨m, ?_, hTl, hT, hh, hlow, hm⟩
  rcases Nat.lt_or_ge m (shL r (Pl.trim xs) j).length with h | h
  · exact h
  · exact absurd (Pl.co_out h) hm
end Go.Proofs.Ytcnjcfmgkkghjaa
