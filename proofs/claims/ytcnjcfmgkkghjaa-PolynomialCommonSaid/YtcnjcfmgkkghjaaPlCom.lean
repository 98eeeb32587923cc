import Derived.Test.YtcnjcfmgkkghjaaPlDvd
namespace Go.Proofs.Ytcnjcfmgkkghjaa
open Go.RowKit
theorem gcd_zero {ps qs : List Nat} (h : Euc (Pl.trim ps) (Pl.trim qs) []) : Pl.d1 ps = 0 ∧ Pl.d1 qs = 0 := by
  obtain ⟨⟨C, _, c2⟩, ⟨C', _, e2⟩⟩ := h.dvd (fun i => by simp)
  exact ⟨d1_of_zero (fun j => by rw [← Pl.trim_co, c2, cv_left0 rfl]), d1_of_zero (fun j => by rw [← Pl.trim_co, e2, cv_left0 rfl])⟩
theorem dv_trim {G A : List Nat} (h : dv G (Pl.trim A)) : dv G A := by
  obtain ⟨C, c1, c2⟩ := h
  exact ⟨C, c1, fun j => by rw [← Pl.trim_co, c2]⟩
/-- both are divided without a remainder -/
theorem gcd_rest {G A D R : List Nat} (hG : ∀ i, G.getD i 0 < 256) (nG : Pl.Nf G) (h0 : 0 < G.length) (k : dv G (Pl.trim A)) (h : DivOk A (monic G) D R) : R = [] := by
  obtain ⟨C, c1, c2, c3⟩ := monic_dv hG nG h0 (dv_trim k)
  exact (div_exact (monic_lt2 hG) (by rw [monic_d1 hG nG h0]; exact h0) h c1 c2 c3).2
theorem gcd_comm {ps qs G H : List Nat} (hG : ∀ i, G.getD i 0 < 256) (hH : ∀ i, H.getD i 0 < 256) (nG : Pl.Nf G) (nH : Pl.Nf H) (h : Euc (Pl.trim ps) (Pl.trim qs) G) (k : Euc (Pl.trim qs) (Pl.trim ps) H) : monic G = monic H :=
  dv_same hG hH nG nH (k.great hG (h.dvd hG).2 (h.dvd hG).1) (h.great hH (k.dvd hH).2 (k.dvd hH).1)
theorem timesT_trim {ps rs : List Nat} (hp : ∀ i, ps.getD i 0 < 256) (hr : ∀ i, rs.getD i 0 < 256) : timesT (Pl.trim ps) rs = timesT ps rs := by
  refine Pl.nf_ext (timesT_nf (co_trim_lt hp) hr) (timesT_nf hp hr) (fun j => ?_)
  rw [timesT_co, timesT_co, cv_congr (Pl.trim_co ps) (fun _ => rfl)]
theorem gcd_times {ps qs rs G H : List Nat} (hp : ∀ i, ps.getD i 0 < 256) (hq : ∀ i, qs.getD i 0 < 256) (hr : ∀ i, rs.getD i 0 < 256) (r0 : 0 < Pl.d1 rs) (h : Euc (Pl.trim ps) (Pl.trim qs) G) (k : Euc (Pl.trim (timesT ps rs)) (Pl.trim (timesT qs rs)) H) : H = timesT G rs := by
  have e := h.times hr r0 (co_trim_lt hp) (co_trim_lt hq) (Pl.trim_nf qs)
  rw [timesT_trim hp hr, timesT_trim hq hr] at e
  rw [Pl.nf_trim (timesT_nf hp hr), Pl.nf_trim (timesT_nf hq hr)] at k
  exact (e.unique (timesT_lt hq) (timesT_nf hq hr) k).symm
/-- the factor that is left over -/
def quoE (G rs : List Nat) : Nat := Gf.mul (Pl.co G (G.length - 1)) (Gf.inv (Pl.co (timesT G rs) ((timesT G rs).length - 1)))
def quoS (G rs : List Nat) : List Nat := Pl.trim (scal rs (quoE G rs))
theorem quoE_lt {G : List Nat} (hG : ∀ i, G.getD i 0 < 256) (rs : List Nat) : quoE G rs < 256 := Gf.mul_lt _ (hG _)
theorem quoE_ne {G rs : List Nat} (hG : ∀ i, G.getD i 0 < 256) (hr : ∀ i, rs.getD i 0 < 256) (nG : Pl.Nf G) (h : 0 < G.length) (r0 : 0 < Pl.d1 rs) : quoE G rs ≠ 0 := by
  have ht := top_ne nG h
  have hl : 0 < (timesT G rs).length := by rw [timesT_d1 hG hr (by rw [nG]; exact h) r0, nG]; omega
  have ht2 := top_ne (timesT_nf hG hr) hl
  refine Pl.mul_ne (hG _) (inv_lt _) ht (fun e => ?_)
  have := Gf.mul_inv (timesT_lt hG ((timesT G rs).length - 1)) ht2
  rw [show Gf.inv ((timesT G rs).getD ((timesT G rs).length - 1) 0) = 0 from e, Gf.mul_zero] at this
  cases this
theorem quo_co (G rs : List Nat) (j : Nat) : Pl.co (quoS G rs) j = Gf.mul (Pl.co rs j) (quoE G rs) := by unfold quoS; rw [Pl.trim_co, scal_co2]
theorem quo_lt {G rs : List Nat} (hr : ∀ i, rs.getD i 0 < 256) (i : Nat) : (quoS G rs).getD i 0 < 256 := co_trim_lt (scal_lt hr) i
theorem quo_nf (G rs : List Nat) : Pl.Nf (quoS G rs) := Pl.trim_nf _
theorem quo_eq {G rs : List Nat} (hG : ∀ i, G.getD i 0 < 256) (hr : ∀ i, rs.getD i 0 < 256) (nG : Pl.Nf G) (h : 0 < G.length) (j : Nat) : Pl.co (monic (timesT G rs)) j = Pl.cv (Pl.co (monic G)) (Pl.co (quoS G rs)) j := by
  have ht := top_ne nG h
  have hi2 := inv_lt (Pl.co (timesT G rs) ((timesT G rs).length - 1))
  rw [monic_co, timesT_co, show Gf.mul (Pl.cv (Pl.co G) (Pl.co rs) j) (Gf.inv (Pl.co (timesT G rs) ((timesT G rs).length - 1))) = Pl.S (fun i => Gf.mul (Gf.mul (Pl.co G i) (Pl.co rs (j - i))) (Gf.inv (Pl.co (timesT G rs) ((timesT G rs).length - 1)))) (j + 1) from Pl.S_mul' hi2 (fun i _ => Gf.mul_lt _ (hG i))]
  refine Pl.S_congr (fun i _ => ?_)
  rw [monic_co, quo_co, mul4 (hG _) (hr _) (inv_lt _) (quoE_lt hG rs)]
  refine congrArg (Gf.mul (Gf.mul (Pl.co G i) (Pl.co rs (j - i)))) ?_
  unfold quoE
  rw [Gf.mul_assoc (inv_lt _) (hG _) hi2, Gf.mul_comm (inv_lt _) (hG _), Gf.mul_inv (hG _) ht, Gf.one_mul hi2]
theorem one_co (e j : Nat) : Pl.co [e] j = Pl.dl 0 e j := by
  match j with
  | 0 => rfl
  | j + 1 => show ([e] : List Nat).getD (j + 1) 0 = if j + 1 = 0 then e else 0; simp
theorem quo_div {G rs : List Nat} (j : Nat) : Pl.co (quoS G rs) j = Pl.cv (Pl.co rs) (Pl.co [quoE G rs]) j := by
  rw [cv_congr (fun _ => rfl) (one_co (quoE G rs)), Pl.cv_dl, if_pos (Nat.zero_le _), Nat.sub_zero, quo_co]
theorem one_d1 {e : Nat} (h : e ≠ 0) : Pl.d1 [e] = 1 := Pl.d1_unique _ _ (fun _ hi => Pl.co_out hi) (fun _ => h)
theorem quo_d1 {G rs : List Nat} (hG : ∀ i, G.getD i 0 < 256) (hr : ∀ i, rs.getD i 0 < 256) (nG : Pl.Nf G) (h : 0 < G.length) (r0 : 0 < Pl.d1 rs) : Pl.d1 (quoS G rs) = Pl.d1 rs := by
  have he := quoE_ne hG hr nG h r0
  have := d1_cv hr (lt_all (by intro x hx; have := quoE_lt hG rs; simp at hx; omega)) (quo_div (G := G) (rs := rs)) r0 (by rw [one_d1 he]; decide)
  rw [one_d1 he] at this
  omega
/-- dividing the greatest common divisor of the products by that of the polynomials -/
theorem quo_s {G rs D R : List Nat} (hG : ∀ i, G.getD i 0 < 256) (hr : ∀ i, rs.getD i 0 < 256) (nG : Pl.Nf G) (h : 0 < G.length) (k : DivOk (monic (timesT G rs)) (monic G) D R) : D = quoS G rs ∧ R = [] :=
  div_exact (monic_lt2 hG) (by rw [monic_d1 hG nG h]; exact h) k (quo_lt hr) (quo_nf G rs) (quo_eq hG hr nG h)
theorem quo_r {G rs D R : List Nat} (hG : ∀ i, G.getD i 0 < 256) (hr : ∀ i, rs.getD i 0 < 256) (nG : Pl.Nf G) (h : 0 < G.length) (r0 : 0 < Pl.d1 rs) (k : DivOk (quoS G rs) rs D R) : R = [] :=
  (div_exact hr r0 k (lt_all (by intro x hx; have := quoE_lt hG rs; simp at hx; omega)) (by show Pl.d1 _ = 1; exact one_d1 (quoE_ne hG hr nG h r0)) quo_div).2
theorem quo_len {G rs : List Nat} : (quoS G rs).length ≤ rs.length := by
  unfold quoS
  rw [Pl.trim_len]
  refine Nat.le_trans (Pl.d1_le _) ?_
  unfold scal; rw [Pl.fn_len]; exact Nat.le_refl _
end Go.Proofs.Ytcnjcfmgkkghjaa
