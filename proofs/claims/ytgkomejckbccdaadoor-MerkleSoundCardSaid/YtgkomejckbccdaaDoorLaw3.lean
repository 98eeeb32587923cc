import Derived.Test.YtgkomejckbccdaaDoorLawA
import Derived.Test.YtgkomejckbccdaaDoorReach
namespace Go.Proofs.YtgkomejckbccdaaDoor
open Go.RowKit
theorem sums_fewer {ss : List ByteArray} (h : sumsB ss = true) : ∀ s ∈ ss, s.size = 32 := sumsB_all.1 h
set_option maxRecDepth 100000 in
theorem msound_walk (a0 a3 : Option Addr) (len0 cap0 len3 cap3 : Nat) (ss P : List ByteArray) (x : ByteArray) (i : Int) (w : World) (hL : Laid w) (h0 : RdS w a0 len0 cap0 ss) (hm : cap0 ≤ maxLen) (_hx : x.size ≤ maxLen) (hi : (Lit.int .i64 i).wf = true) (h3 : RdS w a3 len3 cap3 P) (hm3 : cap3 ≤ maxLen) :
    Calls Tryd.prog 8 #[.slice a0 len0 cap0, .string x, .int .i64 i, .slice a3 len3 cap3] w fun e w' => e = .returned (.bool true) ∧ Below w.heap.size w w' := by
  have hR := hidIt h0
  have hP := hidIt h3
  have bi := hidIt (bounds_i64 hi)
  clear h0 h3 hi _hx
  obtain ⟨b, hb⟩ : ∃ b, Hid (fewB ss = b) := ⟨_, rfl⟩
  obtain ⟨d, hd⟩ : ∃ b, Hid (fewB P = b) := ⟨_, rfl⟩
  obtain ⟨f, hf⟩ : ∃ b, Hid (sumsB ss = b) := ⟨_, rfl⟩
  go_enter Tryd.func8, Tryd.ntmps8
  go_wp2_with (fail)
  refine (awake9_any _ hL).mono ?_
  rintro e w1 ⟨rfl, hb1⟩
  have B1 := hidIt hb1
  have L1 := hL.below hb1 hL.two
  have aw := fun (W : World) (h : Laid W) => awake9_any W h
  have aw2 := hidIt aw
  clear hb1 aw
  go_wp2_with (fail)
  refine (few_any a0 len0 cap0 ss b hb hm _ (hR.out.below B1.out)).mono ?_
  rintro e w2 ⟨rfl, rfl⟩
  cases b with
  | false =>
    go_wp2_with (fail)
    refine (aw2.out _ L1).mono ?_
    rintro e w2 ⟨rfl, hb2⟩
    go_wp2_with (fail)
    go_ret
    exact ⟨rfl, below_then B1.out hb2⟩
  | true =>
  have hS := hidIt (few_sr hb.out).1
  have hl : Hid (len0 ≤ 20) := by show _ ≤ _; rw [hR.out.len]; exact (few_sr hb.out).2
  go_wp2_with (fail)
  refine (few_any a3 len3 cap3 P d hd hm3 _ (hP.out.below B1.out)).mono ?_
  rintro e w2 ⟨rfl, rfl⟩
  cases d with
  | false =>
    go_wp2_with (fail)
    refine (aw2.out _ L1).mono ?_
    rintro e w2 ⟨rfl, hb2⟩
    go_wp2_with (fail)
    go_ret
    exact ⟨rfl, below_then B1.out hb2⟩
  | true =>
  have hSP := hidIt (few_sr hd.out).1
  have hl3 : Hid (len3 ≤ 20) := by show _ ≤ _; rw [hP.out.len]; exact (few_sr hd.out).2
  by_cases hx64 : 64 < x.size
  · have t1 : (64 : Int) < (x.size : Int) := by omega
    go_wp2_with (fail)
    refine (aw2.out _ L1).mono ?_
    rintro e w2 ⟨rfl, hb2⟩
    go_wp2_with (fail)
    go_ret
    exact ⟨rfl, below_then B1.out hb2⟩
  have t1 : ¬ (64 : Int) < (x.size : Int) := by omega
  have hx : Hid (x.size ≤ 64) := by show _ ≤ _; omega
  clear hx64
  go_wp2_with (fail)
  refine (refsums_any a0 len0 cap0 ss (by have := hl.out; omega) f hf _ (hR.out.below B1.out)).mono ?_
  rintro e w2 ⟨rfl, rfl⟩
  cases f with
  | false =>
    go_wp2_with (fail)
    refine (aw2.out _ L1).mono ?_
    rintro e w2 ⟨rfl, hb2⟩
    go_wp2_with (fail)
    go_ret
    exact ⟨rfl, below_then B1.out hb2⟩
  | true =>
  by_cases hbad : i < 0 ∨ (len0 : Int) ≤ i
  · by_cases hi0 : i < 0
    · clear hbad
      go_wp2_with (fail)
      refine (aw2.out _ L1).mono ?_
      rintro e w2 ⟨rfl, hb2⟩
      go_wp2_with (fail)
      go_ret
      exact ⟨rfl, below_then B1.out hb2⟩
    · have hil : (len0 : Int) ≤ i := by omega
      clear hbad
      go_wp2_with (fail)
      refine (aw2.out _ L1).mono ?_
      rintro e w2 ⟨rfl, hb2⟩
      go_wp2_with (fail)
      go_ret
      exact ⟨rfl, below_then B1.out hb2⟩
  obtain ⟨i', rfl⟩ := Int.eq_ofNat_of_zero_le (show 0 ≤ i by omega)
  have hil : Hid (i' < len0) := by show _ < _; omega
  have g1 : ¬ (i' : Int) < 0 := by omega
  have g2 : ¬ (len0 : Int) ≤ (i' : Int) := by omega
  have hsum := hidIt (sums_fewer hf.out)
  clear hbad
  obtain ⟨rt, hrt⟩ : ∃ v, Hid (Mk.root ss = v) := ⟨_, rfl⟩
  obtain ⟨v, hv⟩ : ∃ v, Hid (ver x (i' : Int) (len0 : Int) P rt = v) := ⟨_, rfl⟩
  go_wp2_with (fail)
  refine (refroot_rec len0 ss rt a0 len0 cap0 _ hrt (Nat.le_refl _) (by have := hl.out; omega) hS.out L1 (hR.out.below B1.out)).mono ?_
  rintro e w2 ⟨rfl, hb2⟩
  have B2 := hidIt (below_then B1.out hb2)
  clear hb2
  go_wp2_with (fail)
  refine (verify_any a3 len3 cap3 P x rt (i' : Int) (len0 : Int) v hv hSP.out.sm (by have := hx.out; omega) (by have := hl3.out; omega) (by have := hl.out; have := hil.out; omega) (by have := hl.out; omega) _ (hL.below B2.out hL.two) (hP.out.below B2.out)).mono ?_
  rintro e w3 ⟨rfl, hb3⟩
  have B3 := hidIt (below_then B2.out hb3)
  clear hb3
  cases v with
  | false =>
    go_wp2_with (fail)
    go_ret
    exact ⟨rfl, B3.out⟩
  | true =>
  have hv2 := hv.out
  unfold ver at hv2
  rw [if_pos (by have := hil.out; omega), Int.toNat_natCast, Int.toNat_natCast] at hv2
  simp only [Bool.and_eq_true, decide_eq_true_eq] at hv2
  obtain ⟨⟨hsP, hsX⟩, hok, hrr⟩ := hv2
  have hx32 : Hid (x.size = 32) := sums_fewer hsX x (by simp)
  have hP32 := hidIt (sums_fewer hsP)
  obtain ⟨Q, hQ⟩ : ∃ Q, Hid (Mk.pathL ss i' = Q) := ⟨_, rfl⟩
  have hlen : Hid (len3 = Q.length) := by
    show _ = _
    rw [hP.out.len, ← hQ.out]
    have := (Mk.up_len (Mk.part ss) P.length 0 i' len0 hil.out).1 hok
    rw [this, hR.out.len]; rfl
  have hu : Hid (Mk.up x P x len3 i' len0 = (Mk.root ss, true)) := by
    show _ = _
    rw [hP.out.len, hrt.out]
    exact Prod.ext hrr hok
  clear hsP hsX hok hrr hv
  go_wp2_with (fail)
  refine (refpath_good a0 len0 cap0 i' ss Q hQ hil.out hS.out (by have := hl.out; omega) _ (hL.below B3.out hL.two) (hR.out.below B3.out)).mono ?_
  rintro e w4 ⟨⟨v, rfl, hown⟩, hb4⟩
  have B4 := hidIt (below_then B3.out hb4)
  obtain ⟨ap, cp, rfl, _, _, _⟩ := owned_strs hown rfl
  clear hb4 hown
  obtain ⟨ql, hql⟩ : ∃ l, Hid (Q.length = l) := ⟨_, rfl⟩
  rw [hql.out]
  have t3 : ((len3 : Int) == (ql : Int)) = true := by have := hlen.out; have := hql.out; simp; omega
  go_wp2_with (fail)
  refine (reaches_rec a3 len3 cap3 P x hP32.out hx32.out (by have := hl3.out; omega) len0 ss i' len3 a0 len0 cap0 _ (Nat.le_refl _) (by have := hil.out; omega) hil.out (by have := hl.out; omega) (Nat.le_refl _) hsum.out hu (hL.below B4.out hL.two) (hR.out.below B4.out) (hP.out.below B4.out)).mono ?_
  rintro e w5 ⟨rfl, hb5⟩
  have B5 := hidIt (below_then B4.out hb5)
  clear hb5
  go_wp2_with (fail)
  go_ret
  exact ⟨rfl, B5.out⟩
end Go.Proofs.YtgkomejckbccdaaDoor
