import Derived.Test.YtgkomejckbccdaaDoorLawA
import Derived.Test.YtgkomejckbccdaaDoorRefC
namespace Go.Proofs.YtgkomejckbccdaaDoor
open Go.RowKit
set_option maxRecDepth 100000 in
theorem mpath_walk (a0 : Option Addr) (len0 cap0 : Nat) (ss : List ByteArray) (i : Int) (w : World) (hL : Laid w) (h0 : RdS w a0 len0 cap0 ss) (hm : cap0 ≤ maxLen) (_hi : (Lit.int .i64 i).wf = true) :
    Calls Tryd.prog 5 #[.slice a0 len0 cap0, .int .i64 i] w fun e w' => e = .returned (.bool true) ∧ Below w.heap.size w w' := by
  have hR := hidIt h0
  clear h0 _hi
  obtain ⟨b, hb⟩ : ∃ b, Hid (fewB ss = b) := ⟨_, rfl⟩
  go_enter Tryd.func5, Tryd.ntmps5
  go_wp2_with (fail)
  refine (awake9_any _ hL).mono ?_
  rintro e w1 ⟨rfl, hb1⟩
  have B1 := hidIt hb1
  have L1 := hL.below hb1 hL.two
  clear hb1
  go_wp2_with (fail)
  refine (few_any a0 len0 cap0 ss b hb hm _ (hR.out.below B1.out)).mono ?_
  rintro e w2 ⟨rfl, rfl⟩
  cases b with
  | false =>
    go_wp2_with (fail)
    refine (awake9_any _ L1).mono ?_
    rintro e w2 ⟨rfl, hb2⟩
    go_wp2_with (fail)
    go_ret
    exact ⟨rfl, below_then B1.out hb2⟩
  | true =>
    have hS := hidIt (few_sr hb.out).1
    have hl : Hid (len0 ≤ 20) := by show _ ≤ _; rw [hR.out.len]; exact (few_sr hb.out).2
    by_cases hbad : i < 0 ∨ (len0 : Int) ≤ i
    · have hbad2 := hidIt hbad
      clear hbad
      go_wp2_with (fail)
      refine (path_bad a0 len0 cap0 i hbad2.out _).mono ?_
      rintro e w2 ⟨rfl, hb2⟩
      have B2 := hidIt (below_then B1.out hb2)
      clear hb2
      go_wp2_with (fail)
      refine (refpath_bad a0 len0 cap0 i hbad2.out _).mono ?_
      rintro e w3 ⟨rfl, hb3⟩
      have B3 := hidIt (below_then B2.out hb3)
      clear hb3
      go_wp2_with (fail)
      refine (sameS_eq none none 0 0 0 [] (by decide) _ (rds_none _) (rds_none _)).mono ?_
      rintro e w4 ⟨rfl, hb4⟩
      have B4 := hidIt (below_then B3.out hb4)
      clear hb4
      go_wp2_with (fail)
      go_ret
      exact ⟨rfl, B4.out⟩
    · obtain ⟨i', rfl⟩ := Int.eq_ofNat_of_zero_le (show 0 ≤ i by omega)
      have hil : Hid (i' < len0) := by show _ < _; omega
      obtain ⟨P, hP⟩ : ∃ P, Hid (Mk.pathL ss i' = P) := ⟨_, rfl⟩
      have hPl : Hid (P.length ≤ 20) := by
        show _ ≤ _
        rw [← hP.out]
        have h1 := hl.out
        rw [hR.out.len] at h1
        have := Mk.path_len 20 (Mk.part ss) 0 ss.length i' (Nat.le_trans h1 (by decide))
        exact this
      clear hbad
      go_wp2_with (fail)
      refine (path_good a0 len0 cap0 i' ss P hP hil.out hS.out.sm (by have := hl.out; omega) _ L1 (hR.out.below B1.out)).mono ?_
      rintro e w2 ⟨⟨v, rfl, hown⟩, hb2⟩
      have B2 := hidIt (below_then B1.out hb2)
      obtain ⟨ap, cp, rfl, hcp, hst, _⟩ := owned_strs hown rfl
      have P2 : Hid (RdS w2 ap P.length cp P) := ⟨rfl, hcp, hst⟩
      clear hb2 hown hst hcp
      obtain ⟨pl, hpl⟩ : ∃ l, Hid (P.length = l) := ⟨_, rfl⟩
      rw [hpl.out] at P2 ⊢
      go_wp2_with (fail)
      refine (refpath_good a0 len0 cap0 i' ss P hP hil.out hS.out (by have := hl.out; omega) _ (hL.below B2.out hL.two) (hR.out.below B2.out)).mono ?_
      rintro e w3 ⟨⟨v, rfl, hown⟩, hb3⟩
      have B3 := hidIt (below_then B2.out hb3)
      obtain ⟨aq, cq, rfl, hcq, hsq, _⟩ := owned_strs hown rfl
      have P3 := hidIt (P2.out.below hb3)
      have Q3 : Hid (RdS w3 aq P.length cq P) := ⟨rfl, hcq, hsq⟩
      clear hb3 hown hsq hcq P2
      rw [hpl.out] at Q3 ⊢
      go_wp2_with (fail)
      refine (sameS_eq ap aq pl cp cq P (by have := hPl.out; have := hpl.out; omega) _ P3 Q3).mono ?_
      rintro e w4 ⟨rfl, hb4⟩
      have B4 := hidIt (below_then B3.out hb4)
      clear hb4
      go_wp2_with (fail)
      go_ret
      exact ⟨rfl, B4.out⟩
set_option maxRecDepth 100000 in
theorem mverify_walk (a3 : Option Addr) (len3 cap3 : Nat) (P : List ByteArray) (x : ByteArray) (i n : Int) (z : ByteArray) (w : World) (hL : Laid w) (_hx : x.size ≤ maxLen) (hi : (Lit.int .i64 i).wf = true) (hn : (Lit.int .i64 n).wf = true) (h0 : RdS w a3 len3 cap3 P) (hm : cap3 ≤ maxLen) (_hz : z.size ≤ maxLen) :
    Calls Tryd.prog 6 #[.string x, .int .i64 i, .int .i64 n, .slice a3 len3 cap3, .string z] w fun e w' => e = .returned (.bool true) ∧ Below w.heap.size w w' := by
  have hR := hidIt h0
  have bi := hidIt (bounds_i64 hi)
  have bn := hidIt (bounds_i64 hn)
  clear h0 hi hn _hx _hz
  obtain ⟨b, hb⟩ : ∃ b, Hid (fewB P = b) := ⟨_, rfl⟩
  go_enter Tryd.func6, Tryd.ntmps6
  go_wp2_with (fail)
  refine (awake9_any _ hL).mono ?_
  rintro e w1 ⟨rfl, hb1⟩
  have B1 := hidIt hb1
  have L1 := hL.below hb1 hL.two
  clear hb1
  go_wp2_with (fail)
  refine (few_any a3 len3 cap3 P b hb hm _ (hR.out.below B1.out)).mono ?_
  rintro e w2 ⟨rfl, rfl⟩
  by_cases hbig : b = false ∨ 64 < x.size ∨ 64 < z.size
  · cases b with
    | false =>
      go_wp2_with (fail)
      refine (awake9_any _ L1).mono ?_
      rintro e w2 ⟨rfl, hb2⟩
      go_wp2_with (fail)
      go_ret
      exact ⟨rfl, below_then B1.out hb2⟩
    | true =>
      have hbig2 : 64 < x.size ∨ 64 < z.size := by rcases hbig with h | h; (· cases h); exact h
      clear hbig
      go_wp2_with (fail)
      all_goals first
        | (refine (awake9_any _ L1).mono ?_; rintro e w2 ⟨rfl, hb2⟩; go_wp2_with (fail); go_ret; exact ⟨rfl, below_then B1.out hb2⟩)
        | (exfalso; omega)
  · have hbt : b = true := by cases b; (· exfalso; exact hbig (Or.inl rfl)); rfl
    subst hbt
    have t1 : ¬ (64 : Int) < (x.size : Int) := by omega
    have t2 : ¬ (64 : Int) < (z.size : Int) := by omega
    have hx : Hid (x.size ≤ 64) := by show _ ≤ _; omega
    have hS := hidIt (few_sr hb.out).1
    have hl : Hid (len3 ≤ 20) := by show _ ≤ _; rw [hR.out.len]; exact (few_sr hb.out).2
    obtain ⟨v, hv⟩ : ∃ v, Hid (ver x i n P z = v) := ⟨_, rfl⟩
    clear hbig
    go_wp2_with (fail)
    refine (verify_any a3 len3 cap3 P x z i n v hv hS.out.sm (by have := hx.out; omega) (by have := hl.out; omega) bi.out bn.out _ L1 (hR.out.below B1.out)).mono ?_
    rintro e w2 ⟨rfl, hb2⟩
    have B2 := hidIt (below_then B1.out hb2)
    clear hb2
    go_wp2_with (fail)
    refine (refverify_any a3 len3 cap3 P x z i n v hv hS.out hx.out (by have := hl.out; omega) bi.out bn.out _ (hL.below B2.out hL.two) (hR.out.below B2.out)).mono ?_
    rintro e w3 ⟨rfl, hb3⟩
    have B3 := hidIt (below_then B2.out hb3)
    clear hb3
    have hvv : (v == v) = true := by simp
    go_wp2_with (fail)
    go_ret
    exact ⟨by simp, B3.out⟩
end Go.Proofs.YtgkomejckbccdaaDoor
