import Derived.Test.YtgkomejckbccdaaDoorLawA
namespace Go.Proofs.YtgkomejckbccdaaDoor
open Go.RowKit
set_option maxRecDepth 100000 in
theorem msums_walk (a0 : Option Addr) (len0 cap0 : Nat) (xs : List Nat) (s t : ByteArray) (w : World) (hL : Laid w) (h0 : RowB w a0 len0 cap0 xs) (_h1 : s.size ≤ maxLen) (_h2 : t.size ≤ maxLen) :
    Calls Tryd.prog 3 #[.slice a0 len0 cap0, .string s, .string t] w fun e w' => e = .returned (.bool true) ∧ Below w.heap.size w w' := by
  have hR := hidIt h0
  clear h0 _h1 _h2
  go_enter Tryd.func3, Tryd.ntmps3
  go_wp2_with (fail)
  refine (awake9_any _ hL).mono ?_
  rintro e w1 ⟨rfl, hb1⟩
  have B1 := hidIt hb1
  have L1 := hL.below hb1 hL.two
  clear hb1
  by_cases hbig : 200 < len0 ∨ 200 < s.size ∨ 200 < t.size
  · go_wp2_with (fail)
    all_goals first
      | (refine (awake9_any _ L1).mono ?_; rintro e w2 ⟨rfl, hb2⟩; go_wp2_with (fail); go_ret; exact ⟨rfl, below_then B1.out hb2⟩)
      | (exfalso; omega)
  · have t0 : ¬ (200 : Int) < (len0 : Int) := by omega
    have t1 : ¬ (200 : Int) < (s.size : Int) := by omega
    have t2 : ¬ (200 : Int) < (t.size : Int) := by omega
    have hln : Hid (len0 = xs.length) := hR.out.len
    have hxl : Hid (xs.length ≤ 200) := by show _ ≤ _; have := hln.out; omega
    have hst : Hid (s.size + t.size ≤ 400) := by show _ ≤ _; omega
    clear hbig
    go_wp2_with (fail)
    refine (leaf_any a0 len0 cap0 xs hln.out hR.out.lt (by have := hxl.out; omega) hR.out.lecap _ L1 (hR.out.bytes.below B1.out)).mono ?_
    rintro e w2 ⟨rfl, hb2⟩
    have B2 := hidIt (below_then B1.out hb2)
    clear hb2
    go_wp2_with (fail)
    refine (refleaf_any a0 len0 cap0 xs hln hR.out.lt (by have := hxl.out; omega) _ (hR.out.bytes.below B2.out) hR.out.nil).mono ?_
    rintro e w3 ⟨rfl, hb3⟩
    have B3 := hidIt (below_then B2.out hb3)
    obtain ⟨v, hv⟩ : ∃ v, Hid (Mk.leaf xs = v) := ⟨_, rfl⟩
    rw [hv.out]
    have q1 : (v.toList == v.toList) = true := by simp
    obtain ⟨n, hn⟩ : ∃ n, Hid (Mk.node s t = n) := ⟨_, rfl⟩
    have q2 : (n.toList == n.toList) = true := by simp
    clear hb3
    go_wp2_with (fail)
    refine (node_any s t (by have := hst.out; omega) _ (hL.below B3.out hL.two)).mono ?_
    rintro e w4 ⟨rfl, hb4⟩
    have B4 := hidIt (below_then B3.out hb4)
    rw [hn.out]
    clear hb4
    go_wp2_with (fail)
    refine (refnode_any s t n hn.out (by have := hst.out; omega) _).mono ?_
    rintro e w5 ⟨rfl, hb5⟩
    have B5 := hidIt (below_then B4.out hb5)
    clear hb5
    go_wp2_with (fail)
    go_ret
    exact ⟨rfl, B5.out⟩
set_option maxRecDepth 100000 in
theorem mroot_walk (a0 : Option Addr) (len0 cap0 : Nat) (ss : List ByteArray) (w : World) (hL : Laid w) (h0 : RdS w a0 len0 cap0 ss) (hm : cap0 ≤ maxLen) :
    Calls Tryd.prog 4 #[.slice a0 len0 cap0] w fun e w' => e = .returned (.bool true) ∧ Below w.heap.size w w' := by
  have hR := hidIt h0
  clear h0
  obtain ⟨b, hb⟩ : ∃ b, Hid (fewB ss = b) := ⟨_, rfl⟩
  go_enter Tryd.func4, Tryd.ntmps4
  go_wp2_with (fail)
  refine (awake9_any _ hL).mono ?_
  rintro e w1 ⟨rfl, hb1⟩
  have B1 := hidIt hb1
  have L1 := hL.below hb1 hL.two
  clear hb1
  go_wp2_with (fail)
  refine (few_any a0 len0 cap0 ss b hb hm _ (hR.out.below B1.out)).mono ?_
  rintro e w2 ⟨rfl, rfl⟩
  cases b with
  | false =>
    go_wp2_with (fail)
    refine (awake9_any _ L1).mono ?_
    rintro e w2 ⟨rfl, hb2⟩
    go_wp2_with (fail)
    go_ret
    exact ⟨rfl, below_then B1.out hb2⟩
  | true =>
    have hS := hidIt (few_sr hb.out).1
    have hl : Hid (len0 ≤ 20) := by show _ ≤ _; rw [hR.out.len]; exact (few_sr hb.out).2
    obtain ⟨v, hv⟩ : ∃ v, Hid (Mk.root ss = v) := ⟨_, rfl⟩
    have q1 : (v.toList == v.toList) = true := by simp
    go_wp2_with (fail)
    refine (root_rec len0 ss v a0 len0 cap0 _ hv (Nat.le_refl _) (by have := hl.out; omega) hS.out.sm L1 (hR.out.below B1.out)).mono ?_
    rintro e w2 ⟨rfl, hb2⟩
    have B2 := hidIt (below_then B1.out hb2)
    clear hb2
    go_wp2_with (fail)
    refine (refroot_rec len0 ss v a0 len0 cap0 _ hv (Nat.le_refl _) (by have := hl.out; omega) hS.out (hL.below B2.out hL.two) (hR.out.below B2.out)).mono ?_
    rintro e w3 ⟨rfl, hb3⟩
    have B3 := hidIt (below_then B2.out hb3)
    clear hb3
    go_wp2_with (fail)
    go_ret
    exact ⟨rfl, B3.out⟩
end Go.Proofs.YtgkomejckbccdaaDoor
