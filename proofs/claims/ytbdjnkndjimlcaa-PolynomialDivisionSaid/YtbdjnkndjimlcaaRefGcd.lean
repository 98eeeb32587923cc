import Derived.Test.YtbdjnkndjimlcaaRefDiv
namespace Go.Proofs.Ytbdjnkndjimlcaa
open Go.RowKit
theorem scal_co (G : List Nat) (i j : Nat) : Pl.co (scal G i) j = Gf.mul (Pl.co G j) i := by
  unfold scal
  exact co_fn (fun j hj => by rw [Pl.co_out hj, Gf.zero_mul]) j
theorem monic_eq {G : List Nat} (hG : ∀ i, G.getD i 0 < 256) (hn : Pl.Nf G) {i : Nat} (hi : i < 256) (h0 : i ≠ 0) : timesT G [i] = scal G i := by
  refine Pl.nf_ext (timesT_nf hG (lt_all (by intro x hx; simp at hx; omega))) (nf_of_top (fun h => ?_)) (fun j => ?_)
  · have hl : (scal G i).length = G.length := Pl.fn_len _ _
    rw [hl] at h ⊢
    rw [scal_co]
    have := Pl.d1_top G (by rw [hn]; exact h)
    rw [hn] at this
    exact Pl.mul_ne (hG _) hi this h0
  · rw [timesT_co, scal_co, cv_congr (f' := Pl.co G) (g' := Pl.dl 0 i) (fun _ => rfl) (fun k => ?_), Pl.cv_dl, if_pos (Nat.zero_le _), Nat.sub_zero]
    match k with
    | 0 => rfl
    | k + 1 => show ([i] : List Nat).getD (k + 1) 0 = if k + 1 = 0 then i else 0; simp
theorem refmonic_any (a : Option Addr) (n c : Nat) (G : List Nat) (hG : ∀ i, G.getD i 0 < 256) (hn : Pl.Nf G) (hb : n ≤ 100) (w : World) (h : Rd w a n c G) :
    Calls Try.prog 51 #[.slice a n c] w fun e w' => (∃ a' m' c', e = .returned (.slice a' m' c') ∧ Rd w' a' m' c' (monic G)) ∧ Below w.heap.size w w' := by
  have hr := hidIt h
  have g2 := hidIt hG
  have hn2 := hidIt hn
  clear h hG hn
  go_enter Try.func51, Try.ntmps51
  go_wp2_with (fail)
  refine (reftrim_any a n c G g2.out (by omega) _ hr.out).mono ?_
  rintro e w1 ⟨⟨a1, m1, c1, rfl, hr1⟩, be1⟩
  rw [Pl.nf_trim hn2.out] at hr1
  obtain rfl : m1 = n := by rw [hr1.len, hr.out.len]
  have hr1' := hidIt hr1
  replace be1 := hidIt be1
  clear hr1
  by_cases h0 : m1 = 0
  · subst h0
    have hG0 : Hid (monic G = G) := by
      show _ = _
      rw [List.eq_nil_of_length_eq_zero hr1'.out.len.symm]; rfl
    go_wp2
    go_ret
    exact ⟨⟨_, _, _, rfl, by rw [hG0.out]; exact hr1'.out⟩, be1.out⟩
  · obtain ⟨t, ht⟩ : ∃ t, Hid (m1 = t + 1) := ⟨m1 - 1, by show _ = _; omega⟩
    have q1 : (m1 : Int) - 1 = (t : Int) := by have := ht.out; omega
    have q2 : (t : Int) < (m1 : Int) := by omega
    have q3 : ((m1 : Int) == 0) = false := by simp; omega
    obtain ⟨b, off, rfl, f1⟩ := hr1'.out.bytes t (by have := hr1'.out.len; have := ht.out; omega)
    obtain ⟨y, hy⟩ : ∃ y, Hid (G.getD t 0 = y) := ⟨_, rfl⟩
    rw [hy.out] at f1
    have yb : y < 256 := by rw [← hy.out]; exact g2.out t
    have y0 : y ≠ 0 := by
      have := Pl.d1_top G (by rw [show Pl.d1 G = G.length from hn2.out, ← hr1'.out.len]; omega)
      rw [show Pl.d1 G = G.length from hn2.out, ← hr1'.out.len, ht.out] at this
      rw [← hy.out]; exact this
    obtain ⟨i, hi⟩ : ∃ i, Hid (Gf.inv y = i) := ⟨_, rfl⟩
    have ib : i < 256 := by rw [← hi.out]; exact Gf.pw_lt _ 254
    have i0 : i ≠ 0 := by rw [← hi.out]; exact Gf.inv_ne yb y0
    have hmon : Hid (timesT G [i] = monic G) := by
      show _ = _
      rw [monic_eq g2.out hn2.out ib i0]
      unfold monic
      rw [← hr1'.out.len, show m1 - 1 = t by have := ht.out; omega, show Pl.co G t = y from hy.out, hi.out]
    go_wp2_with (fail)
    refine (refinv_any y yb y0 _).mono ?_
    rintro e w2 ⟨rfl, rfl⟩
    rw [hi.out]
    go_wp2_with (fail)
    obtain ⟨p1, be2⟩ := one_lit w1 [i] #[.int .u8 (i : Int)] 5 rfl
    refine (refpmul_any _ _ m1 1 c1 1 G [i] g2.out (lt_all (by intro x hx; simp at hx; omega)) (by omega) (by decide) _ (hr1'.out.below be2) ⟨rfl, p1, (fun e => by cases e), by decide⟩).mono ?_
    rintro e w3 ⟨⟨a3, m3, c3, rfl, hr3⟩, hbel⟩
    rw [hmon.out] at hr3
    have hr3' := hidIt hr3
    have be3 := hidIt (then_below (then_below be1.out be2) hbel)
    clear hr3 hbel p1 be2
    go_wp2
    go_ret
    exact ⟨⟨_, _, _, rfl, hr3'.out⟩, be3.out⟩
set_option maxRecDepth 100000 in
set_option maxHeartbeats 1000000 in
theorem refgcd_any (a1 a2 : Option Addr) (n1 n2 c1 c2 : Nat) (xs ys : List Nat) (hx : ∀ i, xs.getD i 0 < 256) (hy : ∀ i, ys.getD i 0 < 256) (hb1 : n1 ≤ 100) (hb2 : n2 ≤ 100) (w : World) (h1 : Rd w a1 n1 c1 xs) (h2 : Rd w a2 n2 c2 ys) :
    Calls Try.prog 26 #[.slice a1 n1 c1, .slice a2 n2 c2] w fun e w' => (∃ a m c G, e = .returned (.slice a m c) ∧ Euc (Pl.trim xs) (Pl.trim ys) G ∧ Rd w' a m c (monic G)) ∧ Below w.heap.size w w' := by
  have d1 := hidIt h1
  have d2 := hidIt h2
  have x2 := hidIt hx
  have y2 := hidIt hy
  have nb1 := hidIt hb1
  have nb2 := hidIt hb2
  clear h1 h2 hx hy
  go_enter Try.func26, Try.ntmps26
  go_wp2_with (fail)
  refine (reftrim_any a1 n1 c1 xs x2.out (by omega) _ d1.out).mono ?_
  rintro e w1 ⟨⟨b1, l1, e1, rfl, k1⟩, be1⟩
  have k1' := hidIt k1
  replace be1 := hidIt be1
  clear k1
  go_wp2_with (fail)
  refine (reftrim_any a2 n2 c2 ys y2.out (by omega) _ (d2.out.below be1.out)).mono ?_
  rintro e w2 ⟨⟨b2, l2, e2, rfl, k2⟩, be2⟩
  have k2' := hidIt k2
  have k1'' := hidIt (k1'.out.below be2)
  have be3 := hidIt (then_below be1.out be2)
  have lb1 : Hid (l1 ≤ 100) := by have := k1'.out.len; have := trim_le (xs := xs) (a := 100) (by have := d1.out.len; have := nb1.out; omega); show _ ≤ _; omega
  have lb2 : Hid (l2 ≤ 100) := by have := k2.len; have := trim_le (xs := ys) (a := 100) (by have := d2.out.len; have := nb2.out; omega); show _ ≤ _; omega
  clear k2 be2 be1 k1'
  go_wp2_with (fail)
  go_loopw [0, 1, 5, 6] (fun p q _ _ wr => ∃ (P Q : List Nat) (b1 b2 : Option Addr) (m1 m2 d1 d2 : Nat), p = .slice b1 m1 d1 ∧ q = .slice b2 m2 d2 ∧ Hid (m1 ≤ 100 ∧ m2 ≤ 100) ∧ Hid (∀ i, P.getD i 0 < 256) ∧ Hid (∀ i, Q.getD i 0 < 256) ∧ Hid (Pl.Nf P) ∧ Hid (Pl.Nf Q) ∧ Hid (Rd wr b1 m1 d1 P) ∧ Hid (Rd wr b2 m2 d2 Q) ∧ Hid (∀ G, Euc P Q G → Euc (Pl.trim xs) (Pl.trim ys) G) ∧ Hid (Below w.heap.size w wr)) (fun _ q _ _ _ => slq q)
  case atStart => exact ⟨Pl.trim xs, Pl.trim ys, _, _, l1, l2, _, _, rfl, rfl, ⟨lb1.out, lb2.out⟩, co_trim_lt x2.out, co_trim_lt y2.out, Pl.trim_nf _, Pl.trim_nf _, k1''.out, k2'.out, fun _ h => h, be3.out⟩
  case round =>
    obtain ⟨P, Q, b1, b2, m1, m2, d1, d2, rfl, rfl, hl, hP, hQ, hPn, hQn, hbP, hbQ, hE, hb⟩ := hrel
    clear k1'' k2' be3
    by_cases hz : 0 < m2
    · have t1 : (0 : Int) < (m2 : Int) := by omega
      go_wp2_with (fail)
      refine (refdivmod_any b1 b2 m1 m2 d1 d2 P Q hP.out hQ.out hl.out.1 hl.out.2 (by rw [show Pl.d1 Q = Q.length from hQn.out, ← hbQ.out.len]; exact hz) _ hbP.out hbQ.out).mono ?_
      rintro e w3 ⟨⟨a3, m3, c3, b4, m4, c4, D, R, rfl, _, k4, hdv⟩, hbel⟩
      have k4' := hidIt k4
      have hdv' := hidIt hdv
      have hbQ' := hidIt (hbQ.out.below hbel)
      have hb' := hidIt (hb.out.trans (hbel.mono hb.out.size))
      have hlt : m4 < m2 := by have h5 := hdv.2.2.2.2.1; rw [show Pl.d1 Q = Q.length from hQn.out, ← k4.len, ← hbQ.out.len] at h5; exact h5
      clear k4 hdv hbel hbQ hb
      go_wp2_with (fail)
      go_roundw
      case rel => exact ⟨Q, R, _, _, m2, m4, _, _, rfl, rfl, ⟨hl.out.2, by have := hl.out.2; omega⟩, hQ.out, hdv'.out.2.1, hQn.out, hdv'.out.2.2.2.1, hbQ'.out, k4'.out, fun G h => hE.out G (.step (by rw [← hbQ'.out.len]; exact hz) hdv'.out h), hb'.out⟩
      case measure => exact hlt
    · obtain rfl : m2 = 0 := by omega
      have hQ0 : Q = [] := List.eq_nil_of_length_eq_zero hbQ.out.len.symm
      have hEf : Hid (Euc (Pl.trim xs) (Pl.trim ys) P) := hE.out P (by rw [hQ0]; exact .stop P)
      go_wp2_with (fail)
      refine (refmonic_any b1 m1 d1 P hP.out hPn.out hl.out.1 _ hbP.out).mono ?_
      rintro e w4 ⟨⟨a5, m5, c5, rfl, k5⟩, hbel⟩
      have k5' := hidIt k5
      have hb' := hidIt (hb.out.trans (hbel.mono hb.out.size))
      clear k5 hbel
      go_wp2
      go_ret
      exact ⟨⟨_, _, _, P, rfl, hEf.out, k5'.out⟩, hb'.out⟩
end Go.Proofs.Ytbdjnkndjimlcaa
