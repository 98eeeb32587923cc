import Derived.Test.YtcnjcfmgkkghjaaGcd
import Derived.Test.YtcnjcfmgkkghjaaRefQ
namespace Go.Proofs.Ytcnjcfmgkkghjaa
open Go.RowKit
/-- a quotient and a remainder that satisfy the equation are THE quotient and remainder -/
theorem divOk_eq {xs ys qs rs : List Nat} (hy : ∀ i, ys.getD i 0 < 256) (h0 : 0 < Pl.d1 ys) (hq : ∀ i, qs.getD i 0 < 256) (hr : ∀ i, rs.getD i 0 < 256) (nq : Pl.Nf qs) (nr : Pl.Nf rs) (hl : rs.length < Pl.d1 ys)
    (h : ∀ j, Pl.co xs j = Pl.co rs j ^^^ Pl.cv (Pl.co ys) (Pl.co qs) j) : DivOk xs ys qs rs := by
  refine ⟨hq, hr, nq, nr, hl, ?_, h⟩
  obtain ⟨D, hD⟩ : ∃ D, Pl.d1 ys = D + 1 := ⟨Pl.d1 ys - 1, by omega⟩
  rcases Nat.eq_zero_or_pos qs.length with ht | ht
  · have hc : ∀ j, Pl.co xs j = Pl.co rs j := fun j => by
      have e : Pl.cv (Pl.co ys) (Pl.co qs) j = 0 := Pl.S_zero (fun i _ => by rw [Pl.co_out (p := qs) (by omega), Gf.mul_zero])
      rw [h j, e]; simp
    have := Pl.d1_congr hc
    rw [nr] at this
    omega
  · have hd : Pl.d1 xs = D + qs.length := by
      refine Pl.d1_unique _ _ (fun j hj => ?_) (fun _ => ?_)
      · rw [h j, Pl.co_out (p := rs) (by omega), Pl.cv_zero (N := D + 1) (M := qs.length) (fun i hi => Pl.d1_zero ys i (by omega)) (fun i hi => Pl.co_out hi) j (by omega)]; rfl
      · have e1 := Pl.d1_top qs (by rw [nq]; exact ht)
        have e2 := Pl.d1_top ys h0
        rw [nq] at e1
        rw [hD] at e2
        rw [h, Pl.co_out (p := rs) (by omega), show D + qs.length - 1 = D + (qs.length - 1) by omega, Pl.cv_top (fun i hi => Pl.d1_zero ys i (by omega)) (fun k hk => Pl.co_out (by omega)), Nat.zero_xor]
        exact Pl.mul_ne (hy _) (hq _) e2 e1
    omega
/-- the reference's term -/
def term (n c : Nat) : List Nat := Pl.fn (Pl.dl n c) (n + 1)
theorem term_co (n c j : Nat) : Pl.co (term n c) j = Pl.dl n c j := co_fn (fun j hj => by unfold Pl.dl; rw [if_neg (by omega)]) j
theorem term_len (n c : Nat) : (term n c).length = n + 1 := Pl.fn_len _ _
theorem term_lt {n c : Nat} (hc : c < 256) (i : Nat) : (term n c).getD i 0 < 256 := fn_lt (fun i => Pl.dl_lt hc i) _ i
theorem term_times {ys : List Nat} (hy : ∀ i, ys.getD i 0 < 256) {n c : Nat} (hc : c < 256) (j : Nat) : Pl.co (timesT (term n c) ys) j = Pl.cv (Pl.co ys) (Pl.dl n c) j := by
  rw [timesT_co, Pl.cv_comm (term_lt hc) hy (n + 1) ys.length (fun i hi => Pl.co_out (by rw [term_len]; exact hi)) (fun i hi => Pl.co_out hi)]
  exact cv_congr (fun _ => rfl) (term_co n c) j
/-- one round of the reference's division -/
theorem refdiv_step {xs ys rs : List Nat} {Qf : Nat → Nat} {D s : Nat} (hy : ∀ i, ys.getD i 0 < 256) (hD : ys.length = D + 1) (hn : Pl.Nf ys) (hr : ∀ i, rs.getD i 0 < 256) (hQ : ∀ i, Qf i < 256) (hs : rs.length = s + D + 1)
    (h0 : ∀ j, j + ys.length ≤ rs.length → Qf j = 0) (h : ∀ j, Pl.co xs j = Pl.co rs j ^^^ Pl.cv (Pl.co ys) Qf j) :
    (Pl.trim (plus rs (timesT (term s (Gf.mul (Pl.co rs (s + D)) (Gf.inv (Pl.co ys D)))) ys))).length < rs.length ∧
    ∀ j, Pl.co xs j = Pl.co (Pl.trim (plus rs (timesT (term s (Gf.mul (Pl.co rs (s + D)) (Gf.inv (Pl.co ys D)))) ys))) j ^^^ Pl.cv (Pl.co ys) (fun i => if i = s then Gf.mul (Pl.co rs (s + D)) (Gf.inv (Pl.co ys D)) else Qf i) j := by
  have hlead : Pl.co ys D ≠ 0 := by
    have := Pl.d1_top ys (by rw [hn]; omega)
    rw [hn, hD] at this
    exact this
  have hinv : Gf.inv (Pl.co ys D) < 256 := Gf.pw_lt _ 254
  obtain ⟨c, hc⟩ : ∃ c, c = Gf.mul (Pl.co rs (s + D)) (Gf.inv (Pl.co ys D)) := ⟨_, rfl⟩
  have hcb : c < 256 := by rw [hc]; exact Gf.mul_lt _ (hr _)
  have hm : Gf.mul (Pl.co ys D) c = Pl.co rs (s + D) := by
    rw [hc, Gf.mul_comm (hy D) (Gf.mul_lt _ (hr _)), ← Gf.mul_assoc (hr _) hinv (hy D), Gf.mul_comm hinv (hy D), Gf.mul_inv (hy D) hlead, Gf.mul_one (hr _)]
  rw [← hc]
  have hco : ∀ j, Pl.co (plus rs (timesT (term s c) ys)) j = Pl.co rs j ^^^ (if s ≤ j then Gf.mul (Pl.co ys (j - s)) c else 0) := fun j => by
    rw [plus_co, term_times hy hcb, Pl.cv_dl]
  constructor
  · rw [Pl.trim_len]
    rcases Nat.lt_or_ge (Pl.d1 (plus rs (timesT (term s c) ys))) rs.length with h2 | h2
    · exact h2
    · exfalso
      have e := Pl.d1_top (plus rs (timesT (term s c) ys)) (by omega)
      rw [hco, if_pos (by omega)] at e
      rcases Nat.lt_or_ge (Pl.d1 (plus rs (timesT (term s c) ys)) - 1) (s + D + 1) with h3 | h3
      · have h4 : Pl.d1 (plus rs (timesT (term s c) ys)) - 1 = s + D := by omega
        rw [h4, show s + D - s = D by omega, hm, Nat.xor_self] at e
        exact e rfl
      · rw [Pl.co_out (p := rs) (by omega), Pl.co_out (p := ys) (by omega), Gf.zero_mul] at e
        exact e rfl
  · intro j
    have hf : Pl.cv (Pl.co ys) (fun i => if i = s then c else Qf i) j = Pl.cv (Pl.co ys) (fun i => Qf i ^^^ Pl.dl s c i) j := cv_congr (fun _ => rfl) (fun i => by
      unfold Pl.dl
      by_cases hi : i = s
      · rw [if_pos hi, if_pos hi, hi, h0 s (by omega)]; simp
      · rw [if_neg hi, if_neg hi]; simp) j
    rw [hf, Pl.cv_xor hy hQ (Pl.dl_lt hcb), Pl.cv_dl, Pl.trim_co, hco, h j]
    exact (Pl.xor_self_mid _ _ _).symm
end Go.Proofs.Ytcnjcfmgkkghjaa
