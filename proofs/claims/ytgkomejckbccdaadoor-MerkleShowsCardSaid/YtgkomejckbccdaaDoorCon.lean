import Derived.Test.YtgkomejckbccdaaDoorBoth
namespace Go.Proofs.YtgkomejckbccdaaDoor
open Go.RowKit
/-- what Consistent answers -/
def con (m n : Int) (x z : ByteArray) (P : List ByteArray) : Bool :=
  if 0 ≤ m ∧ m ≤ n then (sumsB P && sumsB [x, z]) && (if m = 0 then (P.length == 0) && (decide (x = Mk.root []) && (decide (0 < n) || decide (z = Mk.root []))) else
    (Mk.both true P x P.length m.toNat n.toNat true).2.2 && (decide ((Mk.both true P x P.length m.toNat n.toNat true).1 = x) && decide ((Mk.both true P x P.length m.toNat n.toNat true).2.1 = z))) else false
theorem rds_none (w : World) : RdS w none 0 0 [] := ⟨rfl, Nat.le_refl _, Strs.nil _ _⟩
set_option maxRecDepth 100000 in
theorem consistent_any (a : Option Addr) (l cap : Nat) (P : List ByteArray) (x z : ByteArray) (m n : Int) (v : Bool) (hv : Hid (con m n x z P = v)) (hP : Sm P) (hx : x.size ≤ 1000000) (hbig : l ≤ 1000000000) (hm : -9223372036854775808 ≤ m ∧ m ≤ 9223372036854775807) (hn : -9223372036854775808 ≤ n ∧ n ≤ 9223372036854775807) (w : World) (hL : Laid w) (hR : Hid (RdS w a l cap P)) :
    Calls Tryd.prog 38 #[.int .i64 m, .int .i64 n, .string x, .string z, .slice a l cap] w fun e w' => e = .returned (.bool v) ∧ Below w.heap.size w w' := by
  by_cases h0 : m < 0
  · have hv2 : v = false := by rw [← hv.out, con, if_neg (by omega)]
    subst hv2
    clear hR
    go_enter Tryd.func38, Tryd.ntmps38
    go_wp2_with (fail)
    go_ret
    exact ⟨rfl, Below.refl _ _⟩
  by_cases h1 : n < m
  · have hv2 : v = false := by rw [← hv.out, con, if_neg (by omega)]
    subst hv2
    clear hR
    go_enter Tryd.func38, Tryd.ntmps38
    go_wp2_with (fail)
    go_ret
    exact ⟨rfl, Below.refl _ _⟩
  obtain ⟨m', rfl⟩ := Int.eq_ofNat_of_zero_le (show 0 ≤ m by omega)
  obtain ⟨n', rfl⟩ := Int.eq_ofNat_of_zero_le (show 0 ≤ n by omega)
  have hv2 := hv.out
  rw [con, if_pos (by omega), Int.toNat_natCast, Int.toNat_natCast] at hv2
  clear hv
  obtain ⟨b, hb⟩ : ∃ b, Hid (sumsB P = b) := ⟨_, rfl⟩
  obtain ⟨c, hc⟩ : ∃ c, Hid (sumsB [x, z] = c) := ⟨_, rfl⟩
  have hbA : Hid (Below w.heap.size w (w.alloc (.cells #[.string x, .string z] 9))) := (Below.refl _ _).alloc (Nat.le_refl _) _
  have hp := hidIt (rds_pair w x z)
  have hR1 := hidIt (hR.out.below hbA.out)
  have hml := hidIt hR.out.len
  rw [hb.out, hc.out, ← hml.out] at hv2
  clear hR
  have g1 : ¬ (m' : Int) < 0 := h0
  have g2 : ¬ (n' : Int) < (m' : Int) := h1
  cases hbc : (b && c) with
  | false =>
    rw [hbc] at hv2
    have hv4 : v = false := by rw [← hv2]; rfl
    subst hv4
    clear hv2
    go_enter Tryd.func38, Tryd.ntmps38
    go_wp2_with (fail)
    refine (sums_any a _ l cap 2 2 P [x, z] (by omega) (by decide) b c hb hc _ hR1 hp).mono ?_
    rintro e w1 ⟨rfl, rfl⟩
    rw [hbc]
    clear hbc
    go_wp2_with (fail)
    go_ret
    exact ⟨rfl, hbA.out⟩
  | true =>
    rw [hbc, Bool.true_and] at hv2
    by_cases hm0 : m' = 0
    · have t0 : ((m' : Int) == 0) = true := by simp; omega
      rw [if_pos (by omega), ← str_beq, ← str_beq] at hv2
      clear hm0
      obtain ⟨q, hq⟩ : ∃ q, Hid (Mk.root [] = q) := ⟨_, rfl⟩
      rw [hq.out] at hv2
      obtain ⟨b1, hb1⟩ : ∃ b, (x.toList == q.toList) = b := ⟨_, rfl⟩
      obtain ⟨b2, hb2⟩ : ∃ b, (z.toList == q.toList) = b := ⟨_, rfl⟩
      rw [hb1, hb2] at hv2
      go_enter Tryd.func38, Tryd.ntmps38
      have hv3 := hidIt hv2
      clear hv2
      go_wp2_with (fail)
      refine (sums_any a _ l cap 2 2 P [x, z] (by omega) (by decide) b c hb hc _ hR1 hp).mono ?_
      rintro e w1 ⟨rfl, rfl⟩
      rw [hbc]
      clear hbc hb hc hp
      go_wp2_with (fail)
      refine (root_rec 0 [] q none 0 0 _ hq (Nat.le_refl _) (by decide) (fun s hs => by simp at hs) (hL.below hbA.out hL.two) (rds_none _)).mono ?_
      rintro e w1 ⟨rfl, hb3⟩
      have hb4 := hidIt (below_then hbA.out hb3)
      clear hb3 hbA hR1 hq
      by_cases hl0 : l = 0
      · have t1 : ((l : Int) == 0) = true := by simp; omega
        cases b1 with
        | false =>
          have hv4 : v = false := by rw [← hv3.out]; simp
          subst hv4
          clear hv3
          go_wp2_with (fail)
          go_ret
          exact ⟨rfl, hb4.out⟩
        | true =>
          by_cases hn0 : n' = 0
          · have hv4 : v = b2 := by rw [← hv3.out, hl0, hn0]; simp
            subst hv4
            have t2 : ¬ (0 : Int) < (n' : Int) := by omega
            clear hv3
            go_wp2_with (fail)
            go_ret
            exact ⟨rfl, hb4.out⟩
          · have hv4 : v = true := by rw [← hv3.out, hl0]; simp; exact Or.inl (by omega)
            subst hv4
            have t2 : (0 : Int) < (n' : Int) := by omega
            clear hv3
            go_wp2_with (fail)
            go_ret
            exact ⟨rfl, hb4.out⟩
      · have t1 : ((l : Int) == 0) = false := by simp; omega
        have hv4 : v = false := by
          have h5 : (l == 0) = false := by simp; omega
          rw [← hv3.out, h5]; rfl
        subst hv4
        clear hv3
        go_wp2_with (fail)
        go_ret
        exact ⟨rfl, hb4.out⟩
    · obtain ⟨⟨r, s, ok⟩, hu⟩ : ∃ z, Hid (Mk.both true P x l m' n' true = z) := ⟨_, rfl⟩
      rw [if_neg (by omega), hu.out, ← str_beq, ← str_beq] at hv2
      have t1 : ((m' : Int) == 0) = false := by simp; omega
      have hv3 := hidIt hv2
      clear hv2
      by_cases hmn : m' = n'
      · subst hmn
        have hu2 := hu.out
        clear hu
        by_cases hl0 : l = 0
        · subst hl0
          unfold Mk.both at hu2
          rw [if_pos ⟨rfl, rfl⟩] at hu2
          obtain ⟨rfl, h3⟩ := Prod.mk.inj hu2
          obtain ⟨rfl, rfl⟩ := Prod.mk.inj h3
          obtain ⟨b2, hb2⟩ : ∃ b, (x.toList == z.toList) = b := ⟨_, rfl⟩
          have hv4 : v = b2 := by rw [← hv3.out]; simp only [beq_self_eq_true, Bool.true_and]; exact hb2
          subst hv4
          clear hv3 hu2 h3
          go_enter Tryd.func38, Tryd.ntmps38
          go_wp2_with (fail)
          refine (sums_any a _ 0 cap 2 2 P [x, z] (by omega) (by decide) b c hb hc _ hR1 hp).mono ?_
          rintro e w1 ⟨rfl, rfl⟩
          rw [hbc]
          clear hbc hb hc hp
          go_wp2_with (fail)
          go_ret
          exact ⟨rfl, hbA.out⟩
        · obtain ⟨l', rfl⟩ : ∃ l', l = l' + 1 := ⟨l - 1, by omega⟩
          unfold Mk.both at hu2
          rw [if_pos rfl, if_pos rfl] at hu2
          obtain ⟨rfl, h3⟩ := Prod.mk.inj hu2
          obtain ⟨rfl, rfl⟩ := Prod.mk.inj h3
          have hv4 : v = false := by rw [← hv3.out]; rfl
          subst hv4
          obtain ⟨l, hl⟩ : ∃ l, Hid (l' + 1 = l) := ⟨_, rfl⟩
          rw [hl.out] at hR1 hbig ⊢
          have t3 : ((l : Int) == 0) = false := by have := hl.out; simp; omega
          clear hv3 hu2 h3
          go_enter Tryd.func38, Tryd.ntmps38
          go_wp2_with (fail)
          refine (sums_any a _ l cap 2 2 P [x, z] (by omega) (by decide) b c hb hc _ hR1 hp).mono ?_
          rintro e w1 ⟨rfl, rfl⟩
          rw [hbc]
          clear hbc hb hc hp
          go_wp2_with (fail)
          go_ret
          exact ⟨rfl, hbA.out⟩
      · have t2 : ((m' : Int) == (n' : Int)) = false := by simp; omega
        go_enter Tryd.func38, Tryd.ntmps38
        go_wp2_with (fail)
        refine (sums_any a _ l cap 2 2 P [x, z] (by omega) (by decide) b c hb hc _ hR1 hp).mono ?_
        rintro e w1 ⟨rfl, rfl⟩
        rw [hbc]
        clear hbc hb hc hp
        go_wp2_with (fail)
        refine (both_rec a l cap P x hP hx hbig l m' n' true r s ok _ hu (by omega) (by omega) (by omega) (Nat.le_refl _) (hL.below hbA.out hL.two) hR1).mono ?_
        rintro e w1 ⟨rfl, hb3⟩
        have hb4 := hidIt (below_then hbA.out hb3)
        clear hb3 hbA hR1 hu
        obtain ⟨b1, hb1⟩ : ∃ b, (r.toList == x.toList) = b := ⟨_, rfl⟩
        obtain ⟨b2, hb2⟩ : ∃ b, (s.toList == z.toList) = b := ⟨_, rfl⟩
        rw [hb1, hb2] at hv3
        cases ok with
        | false =>
          have hv4 : v = false := by rw [← hv3.out]; rfl
          subst hv4
          clear hv3
          go_wp2_with (fail)
          go_ret
          exact ⟨rfl, hb4.out⟩
        | true =>
          cases b1 with
          | false =>
            have hv4 : v = false := by rw [← hv3.out]; rfl
            subst hv4
            clear hv3
            go_wp2_with (fail)
            go_ret
            exact ⟨rfl, hb4.out⟩
          | true =>
            have hv4 : v = b2 := by rw [← hv3.out]; rfl
            subst hv4
            clear hv3
            go_wp2_with (fail)
            go_ret
            exact ⟨rfl, hb4.out⟩
end Go.Proofs.YtgkomejckbccdaaDoor
