import Derived.Test.YtcnjcfmgkkghjaaLawB
namespace Go.Proofs.Ytcnjcfmgkkghjaa
open Go.RowKit
/-- Euclid's rounds -/
inductive Euc : List Nat → List Nat → List Nat → Prop
  | stop (P : List Nat) : Euc P [] P
  | step {P Q D R G : List Nat} : 0 < Q.length → DivOk P Q D R → Euc Q R G → Euc P Q G
theorem Euc.unique {P Q G H : List Nat} (h : Euc P Q G) : (∀ i, Q.getD i 0 < 256) → Pl.Nf Q → Euc P Q H → G = H := by
  induction h with
  | stop P =>
    intro _ _ k
    cases k with
    | stop => rfl
    | step h1 _ _ => exact absurd h1 (Nat.lt_irrefl _)
  | step h1 h2 h3 ih =>
    intro hQ hn k
    cases k with
    | stop => exact absurd h1 (Nat.lt_irrefl _)
    | step k1 k2 k3 =>
      obtain ⟨_, rfl⟩ := divOk_unique hQ (by rw [hn]; exact h1) h2 k2
      exact ih h2.2.1 h2.2.2.2.1 k3
/-- with the leading coefficient 1 -/
def monic (G : List Nat) : List Nat := scal G (Gf.inv (Pl.co G (G.length - 1)))
def slq : Value → Nat
  | .slice _ n _ => n
  | _ => 0
set_option maxRecDepth 100000 in
set_option maxHeartbeats 1000000 in
theorem gcd_any (a1 a2 : Option Addr) (n1 n2 c1 c2 : Nat) (xs ys : List Nat) (hn : n1 = xs.length) (hm : n2 = ys.length) (hx : ∀ i, xs.getD i 0 < 256) (hy : ∀ i, ys.getD i 0 < 256) (hb1 : n1 ≤ 100000) (hb2 : n2 ≤ 100000) (w : World) (h1 : Bytes w a1 xs) (h2 : Bytes w a2 ys) :
    Calls Try.prog 29 #[.slice a1 n1 c1, .slice a2 n2 c2] w fun e w' => (∃ a m c G, e = .returned (.slice a m c) ∧ Euc (Pl.trim xs) (Pl.trim ys) G ∧ (∀ i, G.getD i 0 < 256) ∧ Pl.Nf G ∧ G.length ≤ 100000 ∧ m = (monic G).length ∧ Bytes w' a (monic G)) ∧ Below w.heap.size w w' := by
  have n1' := hidIt hn
  have n2' := hidIt hm
  have x2 := hidIt hx
  have y2 := hidIt hy
  have i1 := hidIt h1
  have i2 := hidIt h2
  have nb1 := hidIt hb1
  have nb2 := hidIt hb2
  clear hn hm hx hy h1 h2
  go_enter Try.func29, Try.ntmps29
  go_wp2_with (fail)
  refine (trim2_any a1 n1 c1 xs n1'.out x2.out (by omega) _ i1.out).mono ?_
  rintro e w1 ⟨⟨v1, rfl, hm1⟩, be1⟩
  obtain ⟨l1, hl1⟩ : ∃ l, Hid ((Pl.trim xs).length = l) := ⟨_, rfl⟩
  obtain ⟨g1, rfl, _, _, y1⟩ := hm1.at l1 hl1.out
  have y1' := hidIt y1
  replace be1 := hidIt be1
  clear hm1 y1
  go_wp2_with (fail)
  refine (trim2_any a2 n2 c2 ys n2'.out y2.out (by omega) _ (i2.out.below be1.out)).mono ?_
  rintro e w2 ⟨⟨v2, rfl, hm2⟩, be2⟩
  obtain ⟨l2, hl2⟩ : ∃ l, Hid ((Pl.trim ys).length = l) := ⟨_, rfl⟩
  obtain ⟨g2, rfl, _, _, z2⟩ := hm2.at l2 hl2.out
  have z2' := hidIt z2
  have z1' := hidIt (y1'.out.below be2)
  have be3 := hidIt (then_below be1.out be2)
  have lb1 : Hid (l1 ≤ 100000) := by have := hl1.out; have := trim_le (xs := xs) (a := 100000) (by have := n1'.out; have := nb1.out; omega); show _ ≤ _; omega
  have lb2 : Hid (l2 ≤ 100000) := by have := hl2.out; have := trim_le (xs := ys) (a := 100000) (by have := n2'.out; have := nb2.out; omega); show _ ≤ _; omega
  clear hm2 z2 be2 be1 y1'
  go_wp2_with (fail)
  go_loopw [0, 1, 5, 6, 7] (fun p q _ _ _ wr => ∃ (P Q : List Nat) (b1 b2 : Option Addr) (m1 m2 d1 d2 : Nat), p = .slice b1 m1 d1 ∧ q = .slice b2 m2 d2 ∧ Hid (m1 = P.length ∧ m2 = Q.length ∧ m1 ≤ 100000 ∧ m2 ≤ 100000) ∧ Hid (∀ i, P.getD i 0 < 256) ∧ Hid (∀ i, Q.getD i 0 < 256) ∧ Hid (Pl.Nf P) ∧ Hid (Pl.Nf Q) ∧ Hid (Bytes wr b1 P) ∧ Hid (Bytes wr b2 Q) ∧ Hid (∀ G, Euc P Q G → Euc (Pl.trim xs) (Pl.trim ys) G) ∧ Hid (Below w.heap.size w wr)) (fun _ q _ _ _ _ => slq q)
  case atStart => exact ⟨Pl.trim xs, Pl.trim ys, _, _, l1, l2, l1, l2, rfl, rfl, ⟨hl1.out.symm, hl2.out.symm, lb1.out, lb2.out⟩, co_trim_lt x2.out, co_trim_lt y2.out, Pl.trim_nf _, Pl.trim_nf _, z1'.out, z2'.out, fun _ h => h, be3.out⟩
  case round =>
    obtain ⟨P, Q, b1, b2, m1, m2, d1, d2, rfl, rfl, hl, hP, hQ, hPn, hQn, hbP, hbQ, hE, hb⟩ := hrel
    clear z1' z2' be3
    by_cases hz : 0 < m2
    · have t1 : (0 : Int) < (m2 : Int) := by omega
      go_wp2_with (fail)
      refine (divmod_any b1 b2 m1 m2 d1 d2 P Q hl.out.1 hl.out.2.1 hP.out hQ.out (by have := hl.out.2.2.1; omega) (by have := hl.out.2.2.2; omega) (by rw [show Pl.d1 Q = Q.length from hQn.out, ← hl.out.2.1]; exact hz) _ hbP.out hbQ.out).mono ?_
      rintro e w3 ⟨⟨v, u, D, R, rfl, k1, k2, hdv⟩, hbel⟩
      obtain ⟨ld, hld⟩ : ∃ l, Hid (D.length = l) := ⟨_, rfl⟩
      obtain ⟨lr, hlr⟩ : ∃ l, Hid (R.length = l) := ⟨_, rfl⟩
      obtain ⟨g3, rfl, _, _, _⟩ := k1.at ld hld.out
      obtain ⟨g4, rfl, _, _, y4⟩ := k2.at lr hlr.out
      have y4' := hidIt y4
      have hdv' := hidIt hdv
      have hbQ' := hidIt (hbQ.out.below hbel)
      have hb' := hidIt (hb.out.trans (hbel.mono hb.out.size))
      have hlt : lr < m2 := by have h5 := hdv.2.2.2.2.1; rw [show Pl.d1 Q = Q.length from hQn.out, hlr.out, ← hl.out.2.1] at h5; exact h5
      clear k1 k2 y4 hdv hbel hbQ hb
      go_wp2_with (fail)
      go_roundw
      case rel => exact ⟨Q, R, _, _, m2, lr, _, _, rfl, rfl, ⟨hl.out.2.1, hlr.out.symm, hl.out.2.2.2, by have := hl.out.2.2.2; omega⟩, hQ.out, hdv'.out.2.1, hQn.out, hdv'.out.2.2.2.1, hbQ'.out, y4'.out, fun G h => hE.out G (.step (by rw [← hl.out.2.1]; exact hz) hdv'.out h), hb'.out⟩
      case measure => exact hlt
    · obtain rfl : m2 = 0 := by omega
      have hQ0 : Q = [] := List.eq_nil_of_length_eq_zero hl.out.2.1.symm
      have hEf : Hid (Euc (Pl.trim xs) (Pl.trim ys) P) := hE.out P (by rw [hQ0]; exact .stop P)
      by_cases hm0 : m1 = 0
      · subst hm0
        have hP0 : P = [] := List.eq_nil_of_length_eq_zero hl.out.1.symm
        go_wp2_with (fail)
        go_ret
        exact ⟨⟨none, 0, 0, P, rfl, hEf.out, hP.out, hPn.out, by rw [hP0]; decide, by rw [hP0]; rfl, by rw [hP0]; exact fun i hi => absurd hi (Nat.not_lt_zero _)⟩, hb.out⟩
      · obtain ⟨m, hm⟩ : ∃ m, Hid (m1 = m + 1) := ⟨m1 - 1, by show _ = _; omega⟩
        have r1 : (m1 : Int) - 1 = (m : Int) := by have := hm.out; omega
        have r2 : (m : Int) < (m1 : Int) := by omega
        have r3 : ((m1 : Int) == 0) = false := by simp; omega
        obtain ⟨b, off, rfl, f1⟩ := hbP.out m (by have := hl.out.1; have := hm.out; omega)
        obtain ⟨y, hy⟩ : ∃ y, Hid (P.getD m 0 = y) := ⟨_, rfl⟩
        rw [hy.out] at f1
        have yb : y < 256 := by rw [← hy.out]; exact hP.out m
        have y0 : y ≠ 0 := by
          have := Pl.d1_top P (by rw [show Pl.d1 P = P.length from hPn.out, ← hl.out.1]; omega)
          rw [show Pl.d1 P = P.length from hPn.out, ← hl.out.1, hm.out] at this
          rw [← hy.out]; exact this
        have hmon : Hid (monic P = scal P (Gf.inv y)) := by
          show _ = _
          unfold monic
          rw [← hl.out.1, show m1 - 1 = m by have := hm.out; omega, show Pl.co P m = y from hy.out]
        go_wp2_with (fail)
        refine (degree_any _ m1 d1 P hl.out.1 hP.out (by have := hl.out.2.2.1; omega) _ hbP.out).mono ?_
        rintro e w4 ⟨rfl, rfl⟩
        rw [show Pl.d1 P = m1 from hPn.out.trans hl.out.1.symm, r1]
        go_wp2_with (fail)
        refine (inv_pos y yb y0 _).mono ?_
        rintro e w4 ⟨rfl, rfl⟩
        go_wp2_with (fail)
        refine (scale_any _ m1 d1 (Gf.inv y) P hl.out.1 hP.out (by have := hl.out.2.2.1; omega) (Gf.pw_lt _ 254) _ hbP.out).mono ?_
        rintro e w5 ⟨rfl, hrow, hbel⟩
        have hsl : Hid ((scal P (Gf.inv y)).length = m1) := by show _ = _; unfold scal; rw [Pl.fn_len]; exact hl.out.1.symm
        have hsc := hidIt (blk_bytes (n := m1) (off := 0) hrow (scal P (Gf.inv y)) hsl.out (by omega) (fun i hi => by unfold scal; rw [fn_getD _ _ _ (by have := hl.out.1; omega), Nat.zero_add]))
        have hb5 := hidIt (hb.out.trans (hbel.mono hb.out.size))
        clear hrow hbel
        go_wp2_with (fail)
        go_ret
        exact ⟨⟨_, _, _, P, rfl, hEf.out, hP.out, hPn.out, by rw [← hl.out.1]; exact hl.out.2.2.1, by rw [hmon.out]; exact hsl.out.symm, by rw [hmon.out]; exact hsc.out⟩, hb5.out⟩
end Go.Proofs.Ytcnjcfmgkkghjaa
