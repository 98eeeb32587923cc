import Derived.Test.YtgkomejckbccdaaDoorSeeR
namespace Go.Proofs.YtgkomejckbccdaaDoor
open Go.RowKit
theorem RowB.below {w wr : World} {a : Option Addr} {n c : Nat} {xs : List Nat} (h : RowB w a n c xs) (hb : Below w.heap.size w wr) : RowB wr a n c xs := ⟨h.bytes.below hb, h.len, h.nil, h.lt, h.lecap, h.capm⟩
set_option maxRecDepth 100000 in
theorem msee_walk (a4 a5 : Option Addr) (len4 cap4 len5 cap5 : Nat) (xs : List Nat) (P : List ByteArray) (z : ByteArray) (n size b : Int) (w : World) (hL : Laid w) (_hz : z.size ≤ maxLen) (hn : (Lit.int .i64 n).wf = true) (hs : (Lit.int .i64 size).wf = true) (hb : (Lit.int .i64 b).wf = true) (h4 : RowB w a4 len4 cap4 xs) (h5 : RdS w a5 len5 cap5 P) (hm : cap5 ≤ maxLen) :
    Calls Tryd.prog 14 #[.string z, .int .i64 n, .int .i64 size, .int .i64 b, .slice a4 len4 cap4, .slice a5 len5 cap5] w fun e w' => e = .returned (.bool true) ∧ Below w.heap.size w w' := by
  have hX := hidIt h4
  have hP := hidIt h5
  have bn := hidIt (bounds_i64 hn)
  have bs := hidIt (bounds_i64 hs)
  have bb := hidIt (bounds_i64 hb)
  clear h4 h5 hn hs hb _hz
  obtain ⟨f, hf⟩ : ∃ b, Hid (fewB P = b) := ⟨_, rfl⟩
  go_enter Tryd.func14, Tryd.ntmps14
  go_wp2_with (fail)
  refine (awake9_any _ hL).mono ?_
  rintro e w1 ⟨rfl, hb1⟩
  have B1 := hidIt hb1
  have L1 := hL.below hb1 hL.two
  clear hb1
  by_cases hbig : 64 < z.size ∨ 100 < len4
  · go_wp2_with (fail)
    all_goals first
      | (refine (awake9_any _ L1).mono ?_; rintro e w2 ⟨rfl, hb2⟩; go_wp2_with (fail); go_ret; exact ⟨rfl, below_then B1.out hb2⟩)
      | (exfalso; omega)
  have t1 : ¬ (64 : Int) < (z.size : Int) := by omega
  have t2 : ¬ (100 : Int) < (len4 : Int) := by omega
  have hxl : Hid (xs.length ≤ 100) := by show _ ≤ _; have := hX.out.len; omega
  clear hbig
  go_wp2_with (fail)
  refine (few_any a5 len5 cap5 P f hf hm _ (hP.out.below B1.out)).mono ?_
  rintro e w2 ⟨rfl, rfl⟩
  cases f with
  | false =>
    go_wp2_with (fail)
    refine (awake9_any _ L1).mono ?_
    rintro e w2 ⟨rfl, hb2⟩
    go_wp2_with (fail)
    go_ret
    exact ⟨rfl, below_then B1.out hb2⟩
  | true =>
  have hS := hidIt (few_sr hf.out).1
  have hl : Hid (len5 ≤ 20) := by show _ ≤ _; rw [hP.out.len]; exact (few_sr hf.out).2
  obtain ⟨v, hv⟩ : ∃ v, Hid (seeB z n size b xs P = v) := ⟨_, rfl⟩
  go_wp2_with (fail)
  refine (see_any z n size b a4 a5 len4 cap4 len5 cap5 xs P v hv hS.out.sm (by have := hl.out; omega) (by have := hxl.out; omega) bn bs bb _ L1 (hX.out.below B1.out) (hP.out.below B1.out)).mono ?_
  rintro e w2 ⟨rfl, hb2⟩
  have B2 := hidIt (below_then B1.out hb2)
  clear hb2
  go_wp2_with (fail)
  refine (refsee_any z n size b a4 a5 len4 cap4 len5 cap5 xs P v hv hS.out (by have := hl.out; omega) (by have := hxl.out; omega) bn bs bb _ (hL.below B2.out hL.two) (hX.out.below B2.out) (hP.out.below B2.out)).mono ?_
  rintro e w3 ⟨rfl, hb3⟩
  have B3 := hidIt (below_then B2.out hb3)
  clear hb3
  go_wp2_with (fail)
  go_ret
  exact ⟨by simp, B3.out⟩
end Go.Proofs.YtgkomejckbccdaaDoor
