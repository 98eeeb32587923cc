import Derived.Test.YtgkomejckbccdaaDoorLawA
import Derived.Test.YtgkomejckbccdaaDoorRefD
namespace Go.Proofs.YtgkomejckbccdaaDoor
open Go.RowKit
set_option maxRecDepth 100000 in
theorem mconsistent_walk (a3 : Option Addr) (len3 cap3 : Nat) (P : List ByteArray) (i n : Int) (x z : ByteArray) (w : World) (hL : Laid w) (hi : (Lit.int .i64 i).wf = true) (hn : (Lit.int .i64 n).wf = true) (_hx : x.size ≤ maxLen) (_hz : z.size ≤ maxLen) (h0 : RdS w a3 len3 cap3 P) (hm : cap3 ≤ maxLen) :
    Calls Tryd.prog 10 #[.int .i64 i, .int .i64 n, .string x, .string z, .slice a3 len3 cap3] w fun e w' => e = .returned (.bool true) ∧ Below w.heap.size w w' := by
  have hR := hidIt h0
  have bi := hidIt (bounds_i64 hi)
  have bn := hidIt (bounds_i64 hn)
  clear h0 hi hn _hx _hz
  obtain ⟨b, hb⟩ : ∃ b, Hid (fewB P = b) := ⟨_, rfl⟩
  go_enter Tryd.func10, Tryd.ntmps10
  go_wp2_with (fail)
  refine (awake9_any _ hL).mono ?_
  rintro e w1 ⟨rfl, hb1⟩
  have B1 := hidIt hb1
  have L1 := hL.below hb1 hL.two
  clear hb1
  go_wp2_with (fail)
  refine (few_any a3 len3 cap3 P b hb hm _ (hR.out.below B1.out)).mono ?_
  rintro e w2 ⟨rfl, rfl⟩
  by_cases hbig : b = false ∨ 64 < x.size ∨ 64 < z.size
  · cases b with
    | false =>
      go_wp2_with (fail)
      refine (awake9_any _ L1).mono ?_
      rintro e w2 ⟨rfl, hb2⟩
      go_wp2_with (fail)
      go_ret
      exact ⟨rfl, below_then B1.out hb2⟩
    | true =>
      have hbig2 : 64 < x.size ∨ 64 < z.size := by rcases hbig with h | h; (· cases h); exact h
      clear hbig
      go_wp2_with (fail)
      all_goals first
        | (refine (awake9_any _ L1).mono ?_; rintro e w2 ⟨rfl, hb2⟩; go_wp2_with (fail); go_ret; exact ⟨rfl, below_then B1.out hb2⟩)
        | (exfalso; omega)
  · have hbt : b = true := by cases b; (· exfalso; exact hbig (Or.inl rfl)); rfl
    subst hbt
    have t1 : ¬ (64 : Int) < (x.size : Int) := by omega
    have t2 : ¬ (64 : Int) < (z.size : Int) := by omega
    have hx : Hid (x.size ≤ 64) := by show _ ≤ _; omega
    have hS := hidIt (few_sr hb.out).1
    have hl : Hid (len3 ≤ 20) := by show _ ≤ _; rw [hR.out.len]; exact (few_sr hb.out).2
    obtain ⟨v, hv⟩ : ∃ v, Hid (con i n x z P = v) := ⟨_, rfl⟩
    clear hbig
    go_wp2_with (fail)
    refine (consistent_any a3 len3 cap3 P x z i n v hv hS.out.sm (by have := hx.out; omega) (by have := hl.out; omega) bi.out bn.out _ L1 (hR.out.below B1.out)).mono ?_
    rintro e w2 ⟨rfl, hb2⟩
    have B2 := hidIt (below_then B1.out hb2)
    clear hb2
    go_wp2_with (fail)
    refine (refconsistent_any a3 len3 cap3 P x z i n v hv hS.out hx.out (by have := hl.out; omega) bi.out bn.out _ (hL.below B2.out hL.two) (hR.out.below B2.out)).mono ?_
    rintro e w3 ⟨rfl, hb3⟩
    have B3 := hidIt (below_then B2.out hb3)
    clear hb3
    have hvv : (v == v) = true := by simp
    go_wp2_with (fail)
    go_ret
    exact ⟨by simp, B3.out⟩
end Go.Proofs.YtgkomejckbccdaaDoor
