import Derived.Test.YtegfbmekpmdcaaaDoorOr3
import Derived.Test.YtegfbmekpmdcaaaDoorOl1
namespace Go.Proofs.YtegfbmekpmdcaaaDoor
open Go.RowKit
set_option maxRecDepth 100000 in
set_option maxHeartbeats 4000000 in
theorem ochains_any (sd : ByteArray) (c f t : Int) (x sv yv : ByteArray) (e1 f1 : Int) (i1 i2 g0 g1 g2 g3 g4 : Bool) (w : World) (hL : LaidH w)
    (hi1 : decide (0 ≤ c) = i1) (hi2 : decide (c ≤ 999) = i2) (hg0 : ((sd.size : Int) == 32) = g0) (hg1 : decide (f < 0) = g1) (hg2 : decide (t < f) = g2) (hg3 : decide (255 < t) = g3) (hg4 : ((x.size : Int) == 32) = g4)
    (dS : Hid (∀ W, LaidH W → Calls Tryd.prog 23 #[.string sd, .int .i64 c] W fun e w' => e = .returned (.tuple #[.string sv, .int .i64 e1]) ∧ Below W.heap.size W w'))
    (dC : Hid (∀ W, LaidH W → Calls Tryd.prog 24 #[.int .i64 c, .int .i64 f, .int .i64 t, .string x] W fun e w' => e = .returned (.tuple #[.string yv, .int .i64 f1]) ∧ Below W.heap.size W w'))
    (hS : (g0 && (i1 && i2)) = true → e1 = 0 ∧ Hid (∀ W, Calls Tryd.prog 25 #[.string sd, .int .i64 c] W fun e w' => e = .returned (.string sv) ∧ Below W.heap.size W w'))
    (hS' : (g0 && (i1 && i2)) = false → e1 = 1 ∧ sv = ⟨#[]⟩)
    (hC : ((i1 && i2) && (!g1 && (!g2 && (!g3 && g4)))) = true → f1 = 0 ∧ Hid (∀ W, Calls Tryd.prog 26 #[.int .i64 c, .int .i64 f, .int .i64 t, .string x] W fun e w' => e = .returned (.string yv) ∧ Below W.heap.size W w'))
    (hC' : ((i1 && i2) && (!g1 && (!g2 && (!g3 && g4)))) = false → f1 = 1 ∧ yv = ⟨#[]⟩) :
    Calls Tryd.prog 4 #[.string sd, .int .i64 c, .int .i64 f, .int .i64 t, .string x] w fun e w' => e = .returned (.bool true) ∧ Below w.heap.size w w' := by
  have t0 : (({ data := #[] } : ByteArray).toList == ({ data := #[] } : ByteArray).toList) = true := by simp
  have hn1 : decide (c < 0) = !i1 := by rw [← hi1]; by_cases h : 0 ≤ c <;> simp [h] <;> omega
  have hg0' : ((sd.size : Int) != 32) = !g0 := by rw [← hg0]; rfl
  have hg4' : ((x.size : Int) != 32) = !g4 := by rw [← hg4]; rfl

  by_cases hs : (g0 && (i1 && i2)) = true
  · obtain ⟨rfl, dRS⟩ := hS hs
    have t1 : (sv.toList == sv.toList) = true := by simp
    simp only [Bool.and_eq_true] at hs
    obtain ⟨rfl, rfl, rfl⟩ := hs
    by_cases hc : ((true && true) && (!g1 && (!g2 && (!g3 && g4)))) = true
    · obtain ⟨rfl, dRC⟩ := hC hc
      have t2 : (yv.toList == yv.toList) = true := by simp
      simp only [Bool.and_eq_true, Bool.not_eq_true'] at hc
      obtain ⟨_, rfl, rfl, rfl, rfl⟩ := hc
      clear hS hS' hC hC'
      go_enter Tryd.func4, Tryd.ntmps4
      go_wp2_with (fail)
      refine (awake_any _ hL).mono ?_
      rintro e w1 ⟨rfl, hb1⟩
      have H1 := hidIt hb1
      have L1 := hL.below hb1 hL.two
      clear hb1
      go_wp2_with (fail)
      refine (dS.out _ L1).mono ?_
      rintro e w2 ⟨rfl, hb2⟩
      have H2 := hidIt (below_then H1.out hb2)
      have L2 := L1.below hb2 L1.two
      clear hb2 L1 H1
      go_wp2_with (fail)
      refine (dC.out _ L2).mono ?_
      rintro e w3 ⟨rfl, hb3⟩
      have H3 := hidIt (below_then H2.out hb3)
      clear hb3 L2 H2
      go_wp2_with (fail)
      refine (dRS.out _).mono ?_
      rintro e w4 ⟨rfl, hb4⟩
      have H4 := hidIt (below_then H3.out hb4)
      clear hb4 H3
      go_wp2_with (fail)
      refine (dRC.out _).mono ?_
      rintro e w5 ⟨rfl, hb5⟩
      have H5 := hidIt (below_then H4.out hb5)
      clear hb5 H4
      go_wp2_with (fail)
      go_ret
      exact ⟨rfl, H5.out⟩
    · obtain ⟨rfl, rfl⟩ := hC' (by simpa using hc)
      have hc2 : g1 = true ∨ (g1 = false ∧ g2 = true) ∨ (g1 = false ∧ g2 = false ∧ g3 = true) ∨ (g1 = false ∧ g2 = false ∧ g3 = false ∧ g4 = false) := by
        revert hc; cases g1 <;> cases g2 <;> cases g3 <;> cases g4 <;> decide
      clear hS hS' hC hC' hc
      rcases hc2 with rfl | ⟨rfl, rfl⟩ | ⟨rfl, rfl, rfl⟩ | ⟨rfl, rfl, rfl, rfl⟩
      all_goals
        go_enter Tryd.func4, Tryd.ntmps4
        go_wp2_with (fail)
        refine (awake_any _ hL).mono ?_
        rintro e w1 ⟨rfl, hb1⟩
        have H1 := hidIt hb1
        have L1 := hL.below hb1 hL.two
        clear hb1
        go_wp2_with (fail)
        refine (dS.out _ L1).mono ?_
        rintro e w2 ⟨rfl, hb2⟩
        have H2 := hidIt (below_then H1.out hb2)
        have L2 := L1.below hb2 L1.two
        clear hb2 L1 H1
        go_wp2_with (fail)
        refine (dC.out _ L2).mono ?_
        rintro e w3 ⟨rfl, hb3⟩
        have H3 := hidIt (below_then H2.out hb3)
        clear hb3 L2 H2
        go_wp2_with (fail)
        refine (dRS.out _).mono ?_
        rintro e w4 ⟨rfl, hb4⟩
        have H4 := hidIt (below_then H3.out hb4)
        clear hb4 H3
        go_wp2_with (fail)
        go_ret
        exact ⟨rfl, H4.out⟩
  · obtain ⟨rfl, rfl⟩ := hS' (by simpa using hs)
    by_cases hc : ((i1 && i2) && (!g1 && (!g2 && (!g3 && g4)))) = true
    · obtain ⟨rfl, dRC⟩ := hC hc
      have t2 : (yv.toList == yv.toList) = true := by simp
      simp only [Bool.and_eq_true, Bool.not_eq_true'] at hc
      obtain ⟨⟨rfl, rfl⟩, rfl, rfl, rfl, rfl⟩ := hc
      obtain rfl : g0 = false := by simpa using hs
      clear hS hS' hC hC' hs
      go_enter Tryd.func4, Tryd.ntmps4
      go_wp2_with (fail)
      refine (awake_any _ hL).mono ?_
      rintro e w1 ⟨rfl, hb1⟩
      have H1 := hidIt hb1
      have L1 := hL.below hb1 hL.two
      clear hb1
      go_wp2_with (fail)
      refine (dS.out _ L1).mono ?_
      rintro e w2 ⟨rfl, hb2⟩
      have H2 := hidIt (below_then H1.out hb2)
      have L2 := L1.below hb2 L1.two
      clear hb2 L1 H1
      go_wp2_with (fail)
      refine (dC.out _ L2).mono ?_
      rintro e w3 ⟨rfl, hb3⟩
      have H3 := hidIt (below_then H2.out hb3)
      clear hb3 L2 H2
      go_wp2_with (fail)
      refine (dRC.out _).mono ?_
      rintro e w5 ⟨rfl, hb5⟩
      have H5 := hidIt (below_then H3.out hb5)
      clear hb5 H3
      go_wp2_with (fail)
      go_ret
      exact ⟨rfl, H5.out⟩
    · obtain ⟨rfl, rfl⟩ := hC' (by simpa using hc)
      have hc2 : (i1 = false) ∨ (i1 = true ∧ i2 = false) ∨ (i1 = true ∧ i2 = true ∧ g0 = false ∧ (g1 = true ∨ (g1 = false ∧ g2 = true) ∨ (g1 = false ∧ g2 = false ∧ g3 = true) ∨ (g1 = false ∧ g2 = false ∧ g3 = false ∧ g4 = false))) := by
        revert hc hs; cases i1 <;> cases i2 <;> cases g0 <;> cases g1 <;> cases g2 <;> cases g3 <;> cases g4 <;> decide
      clear hS hS' hC hC' hc hs
      rcases hc2 with rfl | ⟨rfl, rfl⟩ | ⟨rfl, rfl, rfl, rfl | ⟨rfl, rfl⟩ | ⟨rfl, rfl, rfl⟩ | ⟨rfl, rfl, rfl, rfl⟩⟩
      all_goals try cases g0
      all_goals
        go_enter Tryd.func4, Tryd.ntmps4
        go_wp2_with (fail)
        refine (awake_any _ hL).mono ?_
        rintro e w1 ⟨rfl, hb1⟩
        have H1 := hidIt hb1
        have L1 := hL.below hb1 hL.two
        clear hb1
        go_wp2_with (fail)
        refine (dS.out _ L1).mono ?_
        rintro e w2 ⟨rfl, hb2⟩
        have H2 := hidIt (below_then H1.out hb2)
        have L2 := L1.below hb2 L1.two
        clear hb2 L1 H1
        go_wp2_with (fail)
        refine (dC.out _ L2).mono ?_
        rintro e w3 ⟨rfl, hb3⟩
        have H3 := hidIt (below_then H2.out hb3)
        clear hb3 L2 H2
        go_wp2_with (fail)
        go_ret
        exact ⟨rfl, H3.out⟩
set_option maxRecDepth 100000 in
theorem ochains_walk (sd : ByteArray) (c f t : Int) (x : ByteArray) (w : World) (hL : LaidH w) (_h0 : sd.size ≤ maxLen) (_h1 : (Lit.int .i64 c).wf = true) (_h2 : (Lit.int .i64 f).wf = true) (_h3 : (Lit.int .i64 t).wf = true) (_h4 : x.size ≤ maxLen) :
    Calls Tryd.prog 4 #[.string sd, .int .i64 c, .int .i64 f, .int .i64 t, .string x] w fun e w' => e = .returned (.bool true) ∧ Below w.heap.size w w' := by
  clear _h0 _h1 _h2 _h3 _h4
  have hex : exB c = (decide (0 ≤ c) && decide (c ≤ 999)) := rfl
  have hch : chOk c f t x = ((decide (0 ≤ c) && decide (c ≤ 999)) && (!decide (f < 0) && (!decide (t < f) && (!decide (255 < t) && ((x.size : Int) == 32))))) := by
    unfold chOk
    rw [hex]
    have a1 : decide (0 ≤ f) = !decide (f < 0) := by by_cases h : f < 0 <;> simp [h] <;> omega
    have a2 : decide (f ≤ t) = !decide (t < f) := by by_cases h : t < f <;> simp [h] <;> omega
    have a3 : decide (t ≤ 255) = !decide (255 < t) := by by_cases h : 255 < t <;> simp [h] <;> omega
    rw [a1, a2, a3]
    by_cases h : (x.size : Int) = 32 <;> simp [h]
  by_cases hs : (((sd.size : Int) == 32) && (decide (0 ≤ c) && decide (c ≤ 999))) = true
  · obtain ⟨q1, q2⟩ := (Bool.and_eq_true _ _).mp hs
    have q3 : (sd.size : Int) = 32 := by simpa using q1
    have q4 := (exB_iff c).1 (hex.trans q2)
    refine ochains_any sd c f t x (Ot.sec (ofStr sd) c.toNat) (chV c f t x) 0 (chE c f t x) _ _ _ _ _ _ _ w hL rfl rfl rfl rfl rfl rfl rfl (fun W hW => ?_) (fun W hW => chain_any c f t x W hW) (fun _ => ⟨rfl, fun W => ?_⟩) (fun h => absurd hs (by rw [h]; decide)) (fun h => ?_) (fun h => ?_)
    · have := secret_ok sd _ (hidIt rfl) q3 c.toNat (by omega) W hW
      rwa [show ((c.toNat : Nat) : Int) = c by omega] at this
    · have := refsecret_any sd _ (hidIt rfl) (by rw [ofStr_len]; omega) c.toNat (by omega) W
      rwa [show ((c.toNat : Nat) : Int) = c by omega] at this
    · have hk := hch.trans h
      refine ⟨by unfold chE; rw [if_pos hk], fun W => ?_⟩
      rw [chV_pos hk]
      obtain ⟨h1, h2, h3, h4, h5⟩ := (chOk_iff _ _ _ _).1 hk
      have := refchain_any c.toNat f.toNat t.toNat (by omega) (by omega) (by omega) x (by omega) W
      rwa [show ((c.toNat : Nat) : Int) = c by omega, show ((f.toNat : Nat) : Int) = f by omega, show ((t.toNat : Nat) : Int) = t by omega] at this
    · have hk := hch.trans h
      exact ⟨by unfold chE; rw [if_neg (by rw [hk]; decide)], by unfold chV; rw [if_neg (by rw [hk]; decide)]⟩
  · refine ochains_any sd c f t x ⟨#[]⟩ (chV c f t x) 1 (chE c f t x) _ _ _ _ _ _ _ w hL rfl rfl rfl rfl rfl rfl rfl (fun W hW => ?_) (fun W hW => chain_any c f t x W hW) (fun h => absurd h hs) (fun _ => ⟨rfl, rfl⟩) (fun h => ?_) (fun h => ?_)
    · refine secret_no sd c ?_ W
      by_cases h : (sd.size : Int) = 32
      · right
        rw [hex]
        have : ((sd.size : Int) == 32) = true := by simpa using h
        rw [this] at hs
        simpa using hs
      · exact .inl h
    · have hk := hch.trans h
      refine ⟨by unfold chE; rw [if_pos hk], fun W => ?_⟩
      rw [chV_pos hk]
      obtain ⟨h1, h2, h3, h4, h5⟩ := (chOk_iff _ _ _ _).1 hk
      have q4 := (exB_iff c).1 h1
      have := refchain_any c.toNat f.toNat t.toNat (by omega) (by omega) (by omega) x (by omega) W
      rwa [show ((c.toNat : Nat) : Int) = c by omega, show ((f.toNat : Nat) : Int) = f by omega, show ((t.toNat : Nat) : Int) = t by omega] at this
    · have hk := hch.trans h
      exact ⟨by unfold chE; rw [if_neg (by rw [hk]; decide)], by unfold chV; rw [if_neg (by rw [hk]; decide)]⟩
end Go.Proofs.YtegfbmekpmdcaaaDoor
