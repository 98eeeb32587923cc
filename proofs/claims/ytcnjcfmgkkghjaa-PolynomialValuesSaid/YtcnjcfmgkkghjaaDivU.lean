import Derived.Test.YtcnjcfmgkkghjaaInter2
namespace Go.Proofs.Ytcnjcfmgkkghjaa
open Go.RowKit
theorem divOk_unique {xs ys qs rs qs' rs' : List Nat} (hy : ∀ i, ys.getD i 0 < 256) (h0 : 0 < Pl.d1 ys) (h : DivOk xs ys qs rs) (h' : DivOk xs ys qs' rs') : qs = qs' ∧ rs = rs' := by
  obtain ⟨a1, a2, a3, a4, a5, a6, a7⟩ := h
  obtain ⟨b1, b2, b3, b4, b5, b6, b7⟩ := h'
  obtain ⟨D, hD⟩ : ∃ D, Pl.d1 ys = D + 1 := ⟨Pl.d1 ys - 1, by omega⟩
  have hq : ∀ j, Pl.co qs j = Pl.co qs' j := by
    have key : Pl.dn (fun j => Pl.co qs j ^^^ Pl.co qs' j) qs.length = 0 := by
      rcases Nat.eq_zero_or_pos (Pl.dn (fun j => Pl.co qs j ^^^ Pl.co qs' j) qs.length) with h | h
      · exact h
      · exfalso
        have ht := Pl.dn_top (fun j => Pl.co qs j ^^^ Pl.co qs' j) qs.length h
        have hz : ∀ k, Pl.dn (fun j => Pl.co qs j ^^^ Pl.co qs' j) qs.length - 1 < k → (fun j => Pl.co qs j ^^^ Pl.co qs' j) k = 0 := fun k hk => by
          rcases Nat.lt_or_ge k qs.length with h2 | h2
          · exact Pl.dn_zero (fun j => Pl.co qs j ^^^ Pl.co qs' j) qs.length k (by omega) h2
          · show Pl.co qs k ^^^ Pl.co qs' k = 0
            rw [Pl.co_out h2, Pl.co_out (by omega)]; rfl
        obtain ⟨t, htt⟩ : ∃ t, Pl.dn (fun j => Pl.co qs j ^^^ Pl.co qs' j) qs.length - 1 = t := ⟨_, rfl⟩
        rw [htt] at ht hz
        have e1 := Pl.cv_top (f := Pl.co ys) (g := fun j => Pl.co qs j ^^^ Pl.co qs' j) (N := D) (M := t) (fun i hi => Pl.d1_zero ys i (by omega)) hz
        rw [Pl.cv_xor hy a1 b1] at e1
        have e2 := a7 (D + t)
        have e3 := b7 (D + t)
        rw [Pl.co_out (p := rs) (by omega), Nat.zero_xor] at e2
        rw [Pl.co_out (p := rs') (by omega), Nat.zero_xor] at e3
        rw [← e2, ← e3, Nat.xor_self] at e1
        have h4 := Pl.d1_top ys h0
        rw [hD] at h4
        exact Pl.mul_ne (hy D) (Gf.xor_lt (a1 t) (b1 t)) h4 ht e1.symm
    intro j
    rcases Nat.lt_or_ge j qs.length with h2 | h2
    · have := Pl.dn_zero (fun j => Pl.co qs j ^^^ Pl.co qs' j) qs.length j (by omega) h2
      have h3 : Pl.co qs j ^^^ Pl.co qs' j ^^^ Pl.co qs' j = 0 ^^^ Pl.co qs' j := by rw [this]
      simpa [Nat.xor_assoc] using h3
    · rw [Pl.co_out h2, Pl.co_out (by omega)]
  have hqq : qs = qs' := Pl.co_ext (by omega) (fun i _ => hq i)
  refine ⟨hqq, Pl.nf_ext a4 b4 (fun j => ?_)⟩
  subst hqq
  have e1 := a7 j
  rw [b7 j] at e1
  have h3 := congrArg (fun z => z ^^^ Pl.cv (Pl.co ys) (Pl.co qs) j) e1
  simp only [Nat.xor_assoc, Nat.xor_self, Nat.xor_zero] at h3
  exact h3.symm
theorem lt_all {xs : List Nat} (h : ∀ x ∈ xs, x < 256) (i : Nat) : xs.getD i 0 < 256 := Pl.co_lt h i
/-- a division that is reckoned out -/
theorem divOk_small (xs ys qs rs : List Nat) (n : Nat) (h1 : ∀ x ∈ qs, x < 256) (h2 : ∀ x ∈ rs, x < 256) (h3 : Pl.Nf qs) (h4 : Pl.Nf rs) (h5 : rs.length < Pl.d1 ys) (h6 : qs.length = Pl.d1 xs + 1 - Pl.d1 ys)
    (h7 : xs.length ≤ n) (h8 : rs.length ≤ n) (h9 : ys.length + qs.length ≤ n + 1) (h10 : ∀ j, j < n → Pl.co xs j = Pl.co rs j ^^^ Pl.cv (Pl.co ys) (Pl.co qs) j) : DivOk xs ys qs rs := by
  refine ⟨lt_all h1, lt_all h2, h3, h4, h5, h6, fun j => ?_⟩
  rcases Nat.lt_or_ge j n with h | h
  · exact h10 j h
  · rw [Pl.co_out (p := xs) (by omega), Pl.co_out (p := rs) (by omega), Pl.cv_zero (N := ys.length) (M := qs.length) (fun i hi => Pl.co_out hi) (fun i hi => Pl.co_out hi) j (by omega)]; rfl
theorem div_ex : DivOk [0, 0, 1] [1, 1] [1, 1] [1] :=
  divOk_small _ _ _ _ 3 (by decide) (by decide) (show Pl.d1 [1, 1] = 2 by decide +kernel) (show Pl.d1 [1] = 1 by decide +kernel) (by decide +kernel) (by decide +kernel) (by decide) (by decide) (by decide) (by decide +kernel)
theorem mul_ex : times [1, 1] [2, 1] = [2, 3, 1] := by decide +kernel
theorem ip_ex : (ipL [0, 1] [2, 0] 2).1 = [2, 2] := by decide +kernel
theorem ip_ex0 : ∀ k, k < 2 → Pl.hor (([0, 1] : List Nat).getD k 0) (ipL [0, 1] [2, 0] k).2 ≠ 0 := by decide +kernel
theorem roots_ex : rootsL [2, 3, 1] 256 = [1, 2] := by decide +kernel
set_option maxRecDepth 100000 in
theorem divz_any (a1 a2 : Option Addr) (n1 n2 c1 c2 : Nat) (ys : List Nat) (hm : n2 = ys.length) (hy : ∀ i, ys.getD i 0 < 256) (hb2 : n2 ≤ 140737488355328) (h02 : Pl.d1 ys = 0) (w : World) (h2 : Bytes w a2 ys) :
    Calls Try.prog 30 #[.slice a1 n1 c1, .slice a2 n2 c2] w fun e w' => e = .returned (.tuple #[.slice none 0 0, .slice none 0 0, .int .i64 1]) ∧ Below w.heap.size w w' := by
  obtain ⟨Q, hQ⟩ : ∃ Q, Hid (Q = Pl.trim ys) := ⟨_, rfl⟩
  have hQl : Hid (Q.length = 0) := by show _ = _; rw [hQ.out, Pl.trim_len, h02]
  have hQd : Hid (Pl.d1 Q = 0) := by show _ = _; rw [hQ.out, Pl.d1_trim, h02]
  have hQb : Hid (∀ i, Q.getD i 0 < 256) := fun i => by rw [hQ.out]; exact co_trim_lt hy i
  have hz := hidIt h02
  have n2' := hidIt hm
  have y2 := hidIt hy
  have i2 := hidIt h2
  clear hm hy h2 h02
  go_enter Try.func30, Try.ntmps30
  go_wp2_with (fail)
  refine (trim2_any _ _ _ ys n2'.out y2.out hb2 _ i2.out).mono ?_
  rintro e w1 ⟨⟨v1, rfl, hm1⟩, be1⟩
  obtain ⟨g1, rfl, lo1, hi1, by1⟩ := hm1.at 0 (by rw [Pl.trim_len, hz.out])
  rw [← hQ.out] at by1
  have by1' := hidIt by1
  have be1' := hidIt be1
  clear hm1 lo1 hi1 by1 be1
  go_wp2_with (fail)
  refine (degree_any _ _ _ Q hQl.out.symm hQb.out (by omega) _ by1'.out).mono ?_
  rintro e w3 ⟨rfl, rfl⟩
  rw [hQd.out, show ((0 : Nat) : Int) - 1 = -1 from rfl]
  go_wp2_with (fail)
  go_ret3
  exact ⟨rfl, be1'.out⟩
end Go.Proofs.Ytcnjcfmgkkghjaa
