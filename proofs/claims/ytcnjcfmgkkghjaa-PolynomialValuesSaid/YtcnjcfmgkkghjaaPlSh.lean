import Derived.Test.YtcnjcfmgkkghjaaPlLag
namespace Go.Proofs.Ytcnjcfmgkkghjaa
open Go.RowKit
theorem xor_four (a b c : Nat) : (a ^^^ b) ^^^ (b ^^^ c) = a ^^^ c := by rw [Nat.xor_assoc, ← Nat.xor_assoc b b, Nat.xor_self, Nat.zero_xor]
/-- squaring respects sums -/
theorem pw_frob {x y : Nat} (hx : x < 256) (hy : y < 256) : ∀ j, Gf.pw (x ^^^ y) (2 ^ j) = Gf.pw x (2 ^ j) ^^^ Gf.pw y (2 ^ j)
  | 0 => by
    have hz := Gf.xor_lt hx hy
    show Gf.mul 1 (x ^^^ y) = Gf.mul 1 x ^^^ Gf.mul 1 y
    rw [Gf.one_mul hz, Gf.one_mul hx, Gf.one_mul hy]
  | j + 1 => by
    have hz := Gf.xor_lt hx hy
    have ih := pw_frob hx hy j
    have a := Gf.pw_lt x (2 ^ j)
    have b := Gf.pw_lt y (2 ^ j)
    rw [Nat.pow_succ, Nat.mul_two, Pl.pw_add hz, Pl.pw_add hx, Pl.pw_add hy, ih]
    generalize Gf.pw x (2 ^ j) = u at *
    generalize Gf.pw y (2 ^ j) = v at *
    rw [Gf.xor_mul _ a b, Gf.mul_xor a a b, Gf.mul_xor b a b, Gf.mul_comm b a]
    exact xor_four _ _ _
theorem S_shiftn {f : Nat → Nat} (h n : Nat) (h0 : ∀ i, i < h → f i = 0) : Pl.S f (n + h) = Pl.S (fun i => f (i + h)) n := by
  induction n with
  | zero => rw [Nat.zero_add]; exact Pl.S_zero h0
  | succ n ih =>
    rw [show n + 1 + h = (n + h) + 1 by omega]
    show Pl.S f (n + h) ^^^ f (n + h) = Pl.S _ n ^^^ f (n + h)
    rw [ih]
/-- a round of the shift, done below k -/
def rnd (h q L : Nat) (F : Nat → Nat) (k i : Nat) : Nat := if i < k ∧ i + h < L ∧ i / h % 2 = 0 then F i ^^^ Gf.mul q (F (i + h)) else F i
/-- the weight of a coefficient after j rounds -/
def wgt (y z h i : Nat) : Nat := Gf.mul (Gf.pw y (i % h)) (Gf.pw z (i - i % h))
theorem wgt_lt (y z h i : Nat) : wgt y z h i < 256 := Gf.mul_lt _ (Gf.pw_lt _ _)
theorem wgt_low {y z h i : Nat} (hb : i / h % 2 = 0) : wgt y z h i = wgt y z (2 * h) i := by
  unfold wgt
  have e : i % (2 * h) = i % h := by
    rw [Nat.mul_comm, Nat.mod_mul, hb, Nat.mul_zero, Nat.add_zero]
  rw [e]
theorem wgt_high {y z r h i : Nat} (hh : 0 < h) (hy : y < 256) (hz : z < 256) (hr : Gf.pw z h = Gf.pw y h ^^^ Gf.pw r h) (hb : i / h % 2 = 1) : wgt y z h i = wgt y z (2 * h) i ^^^ Gf.mul (Gf.pw r h) (wgt y z (2 * h) (i - h)) := by
  have hdiv := Nat.div_add_mod i h
  obtain ⟨d, hd⟩ : ∃ d, i / h = 2 * d + 1 := ⟨i / h / 2, by omega⟩
  have hm := Nat.mod_lt i hh
  obtain ⟨lo, hlo⟩ : ∃ lo, i % h = lo := ⟨_, rfl⟩
  rw [hd, hlo] at hdiv
  rw [hlo] at hm
  have hi : i = 2 * h * d + h + lo := by rw [← hdiv, Nat.mul_add, Nat.mul_one, ← Nat.mul_assoc, Nat.mul_comm h 2]
  have e1 : i % (2 * h) = lo + h := by rw [Nat.mul_comm 2 h, Nat.mod_mul, hb, hlo, Nat.mul_one]
  have e2 : i - h = 2 * h * d + lo := by omega
  have e3 : (i - h) % (2 * h) = lo := by rw [e2, Nat.mul_add_mod, Nat.mod_eq_of_lt (by omega)]
  unfold wgt
  rw [e1, e3, hlo, show i - lo = 2 * h * d + h by omega, show i - (lo + h) = 2 * h * d by omega, show i - h - lo = 2 * h * d by omega, Pl.pw_add hy, Pl.pw_add hz, hr]
  have a := Gf.pw_lt y lo
  have b := Gf.pw_lt y h
  have c := Gf.pw_lt z (2 * h * d)
  have e := Gf.pw_lt r h
  generalize Gf.pw y lo = p1 at *
  generalize Gf.pw y h = p2 at *
  generalize Gf.pw z (2 * h * d) = p3 at *
  generalize Gf.pw r h = p4 at *
  rw [Gf.mul_xor c b e, Gf.mul_xor a (Gf.mul_lt _ c) (Gf.mul_lt _ c)]
  congr 1
  · rw [← Gf.mul_assoc a b c, Gf.mul_comm b c]
  · rw [Gf.mul_comm e (Gf.mul_lt _ a), ← Gf.mul_assoc a c e]
/-- one round keeps the weighted sum -/
theorem rnd_sum {y z r h L : Nat} {F : Nat → Nat} (hh : 0 < h) (hy : y < 256) (hz : z < 256) (hr : Gf.pw z h = Gf.pw y h ^^^ Gf.pw r h) (hF : ∀ i, F i < 256) :
    Pl.S (fun i => Gf.mul (rnd h (Gf.pw r h) L F L i) (wgt y z (2 * h) i)) L = Pl.S (fun i => Gf.mul (F i) (wgt y z h i)) L := by
  have hq := Gf.pw_lt r h
  obtain ⟨q, hqq⟩ : ∃ q, Gf.pw r h = q := ⟨_, rfl⟩
  -- what a round adds, from below and from above
  let A : Nat → Nat := fun i => if i + h < L ∧ i / h % 2 = 0 then Gf.mul (Gf.mul (Gf.pw r h) (F (i + h))) (wgt y z (2 * h) i) else 0
  let B : Nat → Nat := fun i => if i / h % 2 = 1 then Gf.mul (F i) (Gf.mul (Gf.pw r h) (wgt y z (2 * h) (i - h))) else 0
  have e1 : Pl.S (fun i => Gf.mul (rnd h (Gf.pw r h) L F L i) (wgt y z (2 * h) i)) L = Pl.S (fun i => Gf.mul (F i) (wgt y z (2 * h) i)) L ^^^ Pl.S A L := by
    rw [← Pl.S_xor]
    refine Pl.S_congr (fun i hi => ?_)
    show Gf.mul (if i < L ∧ i + h < L ∧ i / h % 2 = 0 then _ else _) _ = _ ^^^ (if i + h < L ∧ i / h % 2 = 0 then _ else 0)
    by_cases hc : i + h < L ∧ i / h % 2 = 0
    · rw [if_pos ⟨hi, hc⟩, if_pos hc, Gf.xor_mul _ (hF i) (Gf.mul_lt _ hq)]
    · rw [if_neg (fun k => hc k.2), if_neg hc, Nat.xor_zero]
  have e2 : Pl.S (fun i => Gf.mul (F i) (wgt y z h i)) L = Pl.S (fun i => Gf.mul (F i) (wgt y z (2 * h) i)) L ^^^ Pl.S B L := by
    rw [← Pl.S_xor]
    refine Pl.S_congr (fun i hi => ?_)
    show _ = _ ^^^ (if i / h % 2 = 1 then _ else 0)
    by_cases hb : i / h % 2 = 1
    · rw [if_pos hb, wgt_high hh hy hz hr hb, Gf.mul_xor (hF i) (wgt_lt ..) (Gf.mul_lt _ hq)]
    · rw [if_neg hb, Nat.xor_zero, wgt_low (by omega)]
  have e3 : Pl.S A L = Pl.S B L := by
    rcases Nat.lt_or_ge h L with hl | hl
    · have hB0 : ∀ i, i < h → B i = 0 := fun i hi => by
        show (if i / h % 2 = 1 then _ else 0) = 0
        rw [if_neg (by rw [Nat.div_eq_of_lt hi]; decide)]
      have eL : L = (L - h) + h := by omega
      rw [show Pl.S B L = Pl.S B ((L - h) + h) by rw [← eL], S_shiftn h (L - h) hB0]
      rw [Pl.S_more (f := A) (n := L - h) (m := L) (by omega) (fun i hi _ => by
        show (if i + h < L ∧ _ then _ else 0) = 0
        rw [if_neg (by omega)])]
      refine Pl.S_congr (fun i hi => ?_)
      show (if i + h < L ∧ i / h % 2 = 0 then _ else 0) = (if (i + h) / h % 2 = 1 then _ else 0)
      rw [Nat.add_div_right _ hh]
      by_cases hb : i / h % 2 = 0
      · rw [if_pos ⟨by omega, hb⟩, if_pos (by omega), Nat.add_sub_cancel, Gf.mul_comm hq (hF (i + h)), ← Gf.mul_assoc (hF _) hq (wgt_lt ..)]
      · rw [if_neg (fun k => hb k.2), if_neg (by omega)]
    · rw [Pl.S_zero (f := A) (fun i hi => by
        show (if i + h < L ∧ _ then _ else 0) = 0
        rw [if_neg (by omega)]), Pl.S_zero (f := B) (fun i hi => by
        show (if i / h % 2 = 1 then _ else 0) = 0
        rw [if_neg (by rw [Nat.div_eq_of_lt (by omega)]; decide)])]
  rw [e1, e2, e3]
/-- the coefficients after j rounds -/
def shf (r L : Nat) (F : Nat → Nat) : Nat → Nat → Nat
  | 0 => F
  | j + 1 => rnd (2 ^ j) (Gf.pw r (2 ^ j)) L (shf r L F j) L
theorem rnd_lt {h q L : Nat} {F : Nat → Nat} (hq : q < 256) (hF : ∀ i, F i < 256) (k i : Nat) : rnd h q L F k i < 256 := by
  unfold rnd; split
  · exact Gf.xor_lt (hF i) (Gf.mul_lt _ hq)
  · exact hF i
theorem shf_lt {r L : Nat} {F : Nat → Nat} (hF : ∀ i, F i < 256) : ∀ j i, shf r L F j i < 256
  | 0, i => hF i
  | j + 1, i => rnd_lt (Gf.pw_lt _ _) (shf_lt hF j) L i
theorem shf_sum {y r L : Nat} {F : Nat → Nat} (hy : y < 256) (hr : r < 256) (hF : ∀ i, F i < 256) : ∀ j, Pl.S (fun i => Gf.mul (shf r L F j i) (wgt y (y ^^^ r) (2 ^ j) i)) L = Pl.S (fun i => Gf.mul (F i) (Gf.pw (y ^^^ r) i)) L
  | 0 => Pl.S_congr (fun i _ => by
    show Gf.mul (F i) (Gf.mul (Gf.pw y (i % 1)) (Gf.pw (y ^^^ r) (i - i % 1))) = _
    rw [Nat.mod_one, Nat.sub_zero]
    show Gf.mul (F i) (Gf.mul 1 _) = _
    rw [Gf.one_mul (Gf.pw_lt _ _)])
  | j + 1 => by
    have hz := Gf.xor_lt hy hr
    rw [← shf_sum hy hr hF j, Nat.pow_succ, Nat.mul_comm (2 ^ j) 2]
    exact rnd_sum (Nat.two_pow_pos j) hy hz (pw_frob hy hr j) (shf_lt hF j)
/-- the shifted polynomial -/
def shL (r : Nat) (p : List Nat) (j : Nat) : List Nat := Pl.fn (shf r p.length (Pl.co p) j) p.length
theorem shL_lt {r : Nat} {p : List Nat} (hp : ∀ i, p.getD i 0 < 256) (j i : Nat) : (shL r p j).getD i 0 < 256 := fn_lt (fun i => shf_lt hp j i) _ i
theorem shL_hor {y r : Nat} (hy : y < 256) (hr : r < 256) {p : List Nat} (hp : ∀ i, p.getD i 0 < 256) (j : Nat) (hj : p.length ≤ 2 ^ j) : Pl.hor y (shL r p j) = Pl.hor (y ^^^ r) p := by
  have hz := Gf.xor_lt hy hr
  rw [Pl.hor_ev hz p (ok_of hp), Pl.hor_ev hy _ (ok_of (shL_lt hp j))]
  unfold shL
  rw [Pl.fn_len]
  unfold Pl.ev
  rw [← shf_sum hy hr hp j]
  refine Pl.S_congr (fun i hi => ?_)
  rw [Pl.fn_co, if_pos hi]
  unfold wgt
  rw [Nat.mod_eq_of_lt (by omega), Nat.sub_self]
  show _ = Gf.mul _ (Gf.mul _ 1)
  rw [Gf.mul_one (Gf.pw_lt _ _)]
end Go.Proofs.Ytcnjcfmgkkghjaa
