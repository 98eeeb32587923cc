import Derived.Test.YtcnjcfmgkkghjaaRefIp
import Derived.Test.YtcnjcfmgkkghjaaInter3
import Derived.Test.YtcnjcfmgkkghjaaUniq
namespace Go.Proofs.Ytcnjcfmgkkghjaa
open Go.RowKit
theorem dst_dec (X : List Nat) : ∀ n, Dst X n ∨ ∃ K, K < n ∧ Dst X K ∧ ∃ j, j < K ∧ X.getD K 0 = X.getD j 0
  | 0 => .inl (fun i j _ h => by omega)
  | n + 1 => by
    rcases dst_dec X n with h | ⟨K, h1, h2⟩
    · by_cases hs : ∃ j, j < n ∧ X.getD n 0 = X.getD j 0
      · exact .inr ⟨n, by omega, h, hs⟩
      · refine .inl (fun i j hij hj e => ?_)
        rcases Nat.lt_or_ge j n with h3 | h3
        · exact h i j hij h3 e
        · obtain rfl : j = n := by omega
          exact hs ⟨i, hij, e.symm⟩
    · exact .inr ⟨K, by omega, h2⟩
theorem interp_len (aX aY : Option Addr) (n m cX cY : Nat) (h : n ≠ m) (w : World) :
    Calls Try.prog 22 #[.slice aX n cX, .slice aY m cY] w fun e w' => e = .returned (.tuple #[.slice none 0 0, .int .i64 1]) ∧ Below w.heap.size w w' := by
  have t1 : ((n : Int) != (m : Int)) = true := by simp; omega
  have t2 : ¬ (n : Int) = (m : Int) := by omega
  clear h
  go_enter Try.func22, Try.ntmps22
  go_wp2
  go_ret2
  exact ⟨rfl, Below.refl _ _⟩
theorem interp_same (aX aY : Option Addr) (n cX cY : Nat) (X Y : List Nat) (hn : n = X.length) (hm : n = Y.length) (hX : ∀ i, X.getD i 0 < 256) (hY : ∀ i, Y.getD i 0 < 256) (hbig : n < 140737488351232) (hnd : ¬ Dst X n) (w : World) (h1 : Bytes w aX X) (h2 : Bytes w aY Y) :
    Calls Try.prog 22 #[.slice aX n cX, .slice aY n cY] w fun e w' => e = .returned (.tuple #[.slice none 0 0, .int .i64 1]) ∧ Below w.heap.size w w' := by
  rcases dst_dec X n with h | ⟨K, hK, hD, j, hj, e⟩
  · exact absurd h hnd
  · exact interp_dup K aX aY n cX cY X Y hn hm hX hY hbig hK (fun k hk => basis_ne X Y hX (hX k) k (fun i hi => (hD i k hi hk).symm)) (by rw [e]; exact basis_zero X Y hX K j hj) w h1 h2
set_option maxRecDepth 100000 in
set_option maxHeartbeats 1000000 in
theorem interpolates_walk (a0 a1 : Option Addr) (len0 cap0 len1 cap1 : Nat) (xs ys : List Nat) (w : World) (r0 : RowB w a0 len0 cap0 xs) (r1 : RowB w a1 len1 cap1 ys) :
    Calls Try.prog 4 #[.slice a0 len0 cap0, .slice a1 len1 cap1] w fun e w' => e = .returned (.bool true) ∧ Below w.heap.size w w' := by
  have hx := hidIt (row_lt r0)
  have hy := hidIt (row_lt r1)
  have n0 := hidIt r0.len
  have n1 := hidIt r1.len
  have b0 := hidIt r0.bytes
  have b1 := hidIt r1.bytes
  clear r0 r1
  go_enter Try.func4, Try.ntmps4
  go_wp2_with (fail)
  refine (awake6_any _).mono ?_
  rintro e w1 ⟨rfl, be1⟩
  replace be1 := hidIt be1
  by_cases hmany : 20 < len0 ∨ 20 < len1
  · have t : (20 : Int) < (len0 : Int) ∨ (20 : Int) < (len1 : Int) := by omega
    by_cases ha : 20 < len0
    · have t0 : (20 : Int) < (len0 : Int) := by omega
      clear hmany t
      go_wp2_with (fail)
      go_ret
      exact ⟨rfl, be1.out⟩
    · have t0 : ¬ (20 : Int) < (len0 : Int) := by omega
      have t1 : (20 : Int) < (len1 : Int) := by omega
      clear hmany t
      go_wp2_with (fail)
      go_ret
      exact ⟨rfl, be1.out⟩
  · have t0 : ¬ (20 : Int) < (len0 : Int) := by omega
    have t1 : ¬ (20 : Int) < (len1 : Int) := by omega
    have s0 : Hid (len0 ≤ 20) := by show _ ≤ _; omega
    have s1 : Hid (len1 ≤ 20) := by show _ ≤ _; omega
    clear hmany
    go_wp2_with (fail)
    by_cases hlen : len0 = len1
    · subst hlen
      have n1' := n1
      by_cases hds : Dst xs len0
      · have hd := hidIt hds
        have ki : Hid (∀ W, Bytes W a0 xs → Bytes W a1 ys → Calls Try.prog 22 #[.slice a0 len0 cap0, .slice a1 len0 cap1] W fun e w' => (∃ a m c, e = .returned (.tuple #[.slice a m c, .int .i64 0]) ∧ m = (ipL xs ys len0).1.length ∧ Bytes w' a (ipL xs ys len0).1) ∧ Below W.heap.size W w') := by
          intro W h1 h2
          exact interp_any a0 a1 len0 cap0 cap1 xs ys n0.out n1'.out hx.out hy.out (by have := s0.out; omega) (fun j hj => basis_ne xs ys hx.out (hx.out j) j (fun i hi => (hd.out i j hi hj).symm)) W h1 h2
        have kr : Hid (∀ W, Bytes W a0 xs → Bytes W a1 ys → Calls Try.prog 24 #[.slice a0 len0 cap0, .slice a1 len0 cap1] W fun e w' => (∃ a' m' c', e = .returned (.slice a' m' c') ∧ Rd w' a' m' c' (lag xs ys len0 len0)) ∧ Below W.heap.size W w') := by
          intro W h1 h2
          exact reflag_any a0 a1 len0 cap0 cap1 xs ys n0.out n1'.out hx.out hy.out (by have := s0.out; omega) hd.out W h1 h2
        have hQ : Hid ((ipL xs ys len0).1 = lag xs ys len0 len0) := lag_eq hx.out hy.out hd.out
        obtain ⟨Q, hQQ⟩ : ∃ Q, Hid (lag xs ys len0 len0 = Q) := ⟨_, rfl⟩
        rw [hQQ.out] at kr hQ
        rw [hQ.out] at ki
        have hQb : Hid (∀ i, Q.getD i 0 < 256) := by show ∀ i, _; rw [← hQQ.out]; exact lag_lt len0 len0
        clear hds hQ hQQ
        refine (ki.out _ (b0.out.below be1.out) (b1.out.below be1.out)).mono ?_
        rintro e w2 ⟨⟨a2, m2, c2, rfl, hm2, hby2⟩, be2⟩
        have hm := hidIt hm2
        have y2 := hidIt hby2
        have b2 := hidIt (then_below be1.out be2)
        clear hm2 hby2 be2 be1 ki
        go_wp2_with (fail)
        refine (refdistinct_any a0 len0 cap0 xs true n0.out hx.out (by have := s0.out; omega) (fun _ => hd.out) (fun h => by cases h) _ (b0.out.below b2.out)).mono ?_
        rintro e w3 ⟨rfl, be3⟩
        have b3 := hidIt (then_below b2.out be3)
        have y3 := hidIt (y2.out.below be3)
        clear be3 b2 y2
        go_wp2_with (fail)
        refine (kr.out _ (b0.out.below b3.out) (b1.out.below b3.out)).mono ?_
        rintro e w4 ⟨⟨a4, m4, c4, rfl, hr4⟩, be4⟩
        have b4 := hidIt (then_below b3.out be4)
        have y4 := hidIt (y3.out.below be4)
        have r4 := hidIt hr4
        clear be4 b3 y3 hr4 kr
        go_wp2_with (fail)
        refine (same6b a2 a4 m2 m4 c2 c4 Q Q true hm.out r4.out.len hQb.out hQb.out (decide_eq_true rfl) _ y4.out r4.out.bytes).mono ?_
        rintro e w5 ⟨rfl, be5⟩
        have b5 := hidIt (then_below b4.out be5)
        clear be5 b4 y4 r4
        go_wp2_with (fail)
        go_ret
        exact ⟨rfl, b5.out⟩
      · have hd := hidIt hds
        have ki : Hid (∀ W, Bytes W a0 xs → Bytes W a1 ys → Calls Try.prog 22 #[.slice a0 len0 cap0, .slice a1 len0 cap1] W fun e w' => e = .returned (.tuple #[.slice none 0 0, .int .i64 1]) ∧ Below W.heap.size W w') := by
          intro W h1 h2
          exact interp_same a0 a1 len0 cap0 cap1 xs ys n0.out n1'.out hx.out hy.out (by have := s0.out; omega) hd.out W h1 h2
        clear hds
        refine (ki.out _ (b0.out.below be1.out) (b1.out.below be1.out)).mono ?_
        rintro e w2 ⟨rfl, be2⟩
        have b2 := hidIt (then_below be1.out be2)
        clear be2 be1 ki
        go_wp2_with (fail)
        refine (refdistinct_any a0 len0 cap0 xs false n0.out hx.out (by have := s0.out; omega) (fun h => by cases h) (fun _ => hd.out) _ (b0.out.below b2.out)).mono ?_
        rintro e w3 ⟨rfl, be3⟩
        have b3 := hidIt (then_below b2.out be3)
        clear be3 b2
        go_wp2_with (fail)
        go_ret
        exact ⟨rfl, b3.out⟩
    · have u0 : ((len0 : Int) != (len1 : Int)) = true := by simp; omega
      have u1 : ¬ (len0 : Int) = (len1 : Int) := by omega
      refine (interp_len a0 a1 len0 len1 cap0 cap1 hlen _).mono ?_
      rintro e w2 ⟨rfl, be2⟩
      have b2 := hidIt (then_below be1.out be2)
      clear be2 be1
      go_wp2_with (fail)
      go_ret
      exact ⟨rfl, b2.out⟩
end Go.Proofs.Ytcnjcfmgkkghjaa
