import Derived.Test.YtcnjcfmgkkghjaaLawA
namespace Go.Proofs.Ytcnjcfmgkkghjaa
open Go.RowKit
theorem nf_of_top {l : List Nat} (h : 0 < l.length → Pl.co l (l.length - 1) ≠ 0) : Pl.Nf l := Pl.d1_unique _ _ (fun _ hi => Pl.co_out hi) h
theorem timesT_nf {xs ys : List Nat} (hx : ∀ i, xs.getD i 0 < 256) (hy : ∀ i, ys.getD i 0 < 256) : Pl.Nf (timesT xs ys) := by
  by_cases h : Pl.d1 xs = 0 ∨ Pl.d1 ys = 0
  · have e : timesT xs ys = [] := by unfold timesT; rw [if_pos h]
    rw [e]; rfl
  · have e : (timesT xs ys).length = Pl.d1 xs + Pl.d1 ys - 1 := by unfold timesT; rw [if_neg h]; exact Pl.fn_len _ _
    refine nf_of_top (fun _ => ?_)
    rw [e, timesT_co, show Pl.d1 xs + Pl.d1 ys - 1 - 1 = (Pl.d1 xs - 1) + (Pl.d1 ys - 1) by omega, Pl.cv_top (fun i hi => Pl.d1_zero xs i (by omega)) (fun i hi => Pl.d1_zero ys i (by omega))]
    exact Pl.mul_ne (hx _) (hy _) (Pl.d1_top xs (by omega)) (Pl.d1_top ys (by omega))
theorem cv_congr {f f' g g' : Nat → Nat} (h1 : ∀ i, f i = f' i) (h2 : ∀ i, g i = g' i) (n : Nat) : Pl.cv f g n = Pl.cv f' g' n := Pl.S_congr (fun i _ => by rw [h1, h2])
theorem ring_assoc {ps qs rs : List Nat} (hp : ∀ i, ps.getD i 0 < 256) (hq : ∀ i, qs.getD i 0 < 256) (hr : ∀ i, rs.getD i 0 < 256) : timesT ps (timesT qs rs) = timesT (timesT ps qs) rs := by
  refine Pl.nf_ext (timesT_nf hp (timesT_lt hq)) (timesT_nf (timesT_lt hp) hr) (fun j => ?_)
  rw [timesT_co, timesT_co, cv_congr (fun _ => rfl) (timesT_co qs rs), cv_congr (timesT_co ps qs) (fun _ => rfl)]
  exact Pl.cv_assoc hp hq hr ps.length qs.length rs.length (fun i hi => Pl.co_out hi) (fun i hi => Pl.co_out hi) (fun i hi => Pl.co_out hi) j
theorem ring_comm {ps qs : List Nat} (hp : ∀ i, ps.getD i 0 < 256) (hq : ∀ i, qs.getD i 0 < 256) : timesT ps qs = timesT qs ps := by
  refine Pl.nf_ext (timesT_nf hp hq) (timesT_nf hq hp) (fun j => ?_)
  rw [timesT_co, timesT_co]
  exact Pl.cv_comm hp hq ps.length qs.length (fun i hi => Pl.co_out hi) (fun i hi => Pl.co_out hi) j
theorem ring_add {ps qs rs : List Nat} (hp : ∀ i, ps.getD i 0 < 256) (hq : ∀ i, qs.getD i 0 < 256) (hr : ∀ i, rs.getD i 0 < 256) : timesT ps (Pl.trim (plus qs rs)) = Pl.trim (plus (timesT ps qs) (timesT ps rs)) := by
  refine Pl.nf_ext (timesT_nf hp (co_trim_lt (plus_lt hq hr))) (Pl.trim_nf _) (fun j => ?_)
  rw [timesT_co, Pl.trim_co, plus_co, timesT_co, timesT_co, cv_congr (fun _ => rfl) (fun i => (Pl.trim_co _ i).trans (plus_co qs rs i))]
  exact Pl.cv_xor hp hq hr j
theorem hor_n {x : Nat} (hx : x < 256) {l : List Nat} (hl : ∀ i, l.getD i 0 < 256) {n : Nat} (hn : l.length ≤ n) : Pl.hor x l = Pl.ev (Pl.co l) x n := by
  rw [Pl.hor_ev hx l (ok_of hl), Pl.ev_more hn (fun i hi => Pl.co_out hi)]
theorem ev_congr {f g : Nat → Nat} (h : ∀ i, f i = g i) (x n : Nat) : Pl.ev f x n = Pl.ev g x n := Pl.S_congr (fun i _ => by rw [h])
theorem ring_ev_add {x : Nat} (hx : x < 256) {ps qs : List Nat} (hp : ∀ i, ps.getD i 0 < 256) (hq : ∀ i, qs.getD i 0 < 256) : Pl.hor x (Pl.trim (plus ps qs)) = Pl.hor x ps ^^^ Pl.hor x qs := by
  have hl : (Pl.trim (plus ps qs)).length ≤ max ps.length qs.length := by
    rw [Pl.trim_len]
    refine Nat.le_trans (Pl.d1_le _) ?_
    unfold plus; rw [Pl.fn_len]; exact Nat.le_refl _
  rw [hor_n hx (co_trim_lt (plus_lt hp hq)) hl, hor_n hx hp (Nat.le_max_left ps.length qs.length), hor_n hx hq (Nat.le_max_right ps.length qs.length), ev_congr (fun i => (Pl.trim_co _ i).trans (plus_co ps qs i))]
  exact Pl.ev_xor hp hq x _
theorem ring_ev_mul {x : Nat} (hx : x < 256) {ps qs : List Nat} (hp : ∀ i, ps.getD i 0 < 256) (hq : ∀ i, qs.getD i 0 < 256) : Pl.hor x (timesT ps qs) = Gf.mul (Pl.hor x ps) (Pl.hor x qs) := by
  have hl : (timesT ps qs).length ≤ ps.length + qs.length := by
    have := timesT_len ps qs; have := Pl.d1_le ps; have := Pl.d1_le qs; omega
  rw [hor_n hx (timesT_lt hp) hl, hor_n hx hp (Nat.le_refl _), hor_n hx hq (Nat.le_refl _), ev_congr (timesT_co ps qs)]
  exact Pl.ev_cv hp hq hx ps.length qs.length (fun i hi => Pl.co_out hi) (fun i hi => Pl.co_out hi)
theorem ring_self {ps : List Nat} : Pl.trim (plus ps ps) = [] := by
  have h : Pl.d1 (plus ps ps) = 0 := Pl.d1_unique _ 0 (fun i _ => by rw [plus_co, Nat.xor_self]) (fun h => absurd h (Nat.lt_irrefl _))
  exact List.eq_nil_of_length_eq_zero (by rw [Pl.trim_len, h])
theorem ring_one {ps : List Nat} (hp : ∀ i, ps.getD i 0 < 256) : timesT ps [1] = Pl.trim ps := by
  refine Pl.nf_ext (timesT_nf hp (lt_all (by decide))) (Pl.trim_nf _) (fun j => ?_)
  rw [timesT_co, Pl.trim_co, cv_congr (f' := Pl.co ps) (g' := Pl.dl 0 1) (fun _ => rfl) (fun i => ?_), Pl.cv_dl, if_pos (Nat.zero_le _), Nat.sub_zero, Gf.mul_one (hp j)]
  match i with
  | 0 => rfl
  | i + 1 => show ([1] : List Nat).getD (i + 1) 0 = if i + 1 = 0 then 1 else 0; simp
end Go.Proofs.Ytcnjcfmgkkghjaa
