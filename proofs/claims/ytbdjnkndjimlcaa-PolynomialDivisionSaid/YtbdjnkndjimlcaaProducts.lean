import Derived.Test.YtbdjnkndjimlcaaRefQ
import Derived.Deep.QuietTactic
import Derived.BigQuiet
namespace Go.Proofs.Ytbdjnkndjimlcaa
open Go.RowKit
theorem row_rd {w : World} {a : Option Addr} {len cap : Nat} {bs : List Nat} (h : RowB w a len cap bs) : Rd w a len cap bs := ⟨h.len, h.bytes, h.nil, by rw [h.len]; exact h.lecap⟩
/-- the power of degree n -/
def pwX (n : Nat) : List Nat := Pl.fn (Pl.dl n 1) (n + 1)
theorem pwX_co (n j : Nat) : Pl.co (pwX n) j = Pl.dl n 1 j := co_fn (fun j hj => by unfold Pl.dl; rw [if_neg (by omega)]) j
theorem pwX_len (n : Nat) : (pwX n).length = n + 1 := Pl.fn_len _ _
theorem pwX_lt (n i : Nat) : (pwX n).getD i 0 < 256 := fn_lt (fun i => Pl.dl_lt (by decide) i) _ i
theorem pwX_d1 (n : Nat) : Pl.d1 (pwX n) = n + 1 := Pl.d1_unique _ _ (fun i hi => by rw [pwX_co]; unfold Pl.dl; rw [if_neg (by omega)]) (fun _ => by rw [pwX_co]; unfold Pl.dl; rw [if_pos (by omega)]; decide)
theorem pwX_times {ps : List Nat} (hp : ∀ i, ps.getD i 0 < 256) (h0 : 0 < Pl.d1 ps) (n : Nat) : (times (pwX n) ps).length = n + Pl.d1 ps ∧ Pl.d1 (times (pwX n) ps) = n + Pl.d1 ps ∧ Pl.co (times (pwX n) ps) n = Pl.co ps 0 := by
  have hl : (times (pwX n) ps).length = n + Pl.d1 ps := by unfold times; rw [Pl.fn_len, pwX_d1]; omega
  have ht : timesT (pwX n) ps = times (pwX n) ps := by unfold timesT; rw [if_neg (by rw [pwX_d1]; omega)]
  have hnf := timesT_nf (pwX_lt n) hp
  rw [ht] at hnf
  refine ⟨hl, hnf.trans hl, ?_⟩
  rw [← ht, timesT_co, Pl.cv_comm (pwX_lt n) hp (n + 1) ps.length (fun i hi => Pl.co_out (by rw [pwX_len]; exact hi)) (fun i hi => Pl.co_out hi), cv_congr (fun _ => rfl) (pwX_co n), Pl.cv_dl, if_pos (Nat.le_refl _), Nat.sub_self, Gf.mul_one (hp 0)]
set_option maxRecDepth 100000 in
set_option maxHeartbeats 4000000 in
theorem products_walk (a0 a1 : Option Addr) (len0 cap0 len1 cap1 : Nat) (ps qs : List Nat) (x0 : Int) (w : World) (r0 : RowB w a0 len0 cap0 ps) (r1 : RowB w a1 len1 cap1 qs) (wx : (Lit.int .u16 x0).wf = true) :
    Calls Try.prog 3 #[.slice a0 len0 cap0, .slice a1 len1 cap1, .int .u16 x0] w fun e w' => e = .returned (.bool true) ∧ Below w.heap.size w w' := by
  obtain ⟨hN, hNb, rfl⟩ : ∃ n : Nat, n < 65536 ∧ x0 = n := by
    have := bounds_u16 wx
    exact ⟨x0.toNat, by omega, by omega⟩
  obtain ⟨n, hn⟩ : ∃ n, Hid (hN % 1100 = n) := ⟨_, rfl⟩
  have tm : (hN : Int).tmod 1100 = (n : Int) := by rw [Int.tmod_eq_emod_of_nonneg (by omega)]; have := hn.out; omega
  have tm2 : (hN : Int) % 1100 = (n : Int) := by have := hn.out; omega
  have nlt : n < 1100 := by have := hn.out; omega
  obtain ⟨m, hm⟩ : ∃ m, Hid (n + 1 = m) := ⟨_, rfl⟩
  have q1 : (n : Int) + 1 = (m : Int) := by have := hm.out; omega
  have mlt : m ≤ 1100 := by have := hm.out; omega
  have q2 : (n : Int) < (m : Int) := by omega
  have hmk := makeLen m (by omega)
  have hp := hidIt (row_lt r0)
  have hq := hidIt (row_lt r1)
  have n0 := hidIt r0.len
  have n1 := hidIt r1.len
  have b0 := hidIt r0.bytes
  have b1 := hidIt r1.bytes
  have d0 := hidIt (row_rd r0)
  have d1 := hidIt (row_rd r1)
  clear r0 r1 wx
  obtain ⟨dp, hdp⟩ : ∃ d, Hid (Pl.d1 ps = d) := ⟨_, rfl⟩
  go_enter Try.func3, Try.ntmps3
  go_wp2_with (fail)
  refine (awake6_any _).mono ?_
  rintro e w1 ⟨rfl, be1⟩
  replace be1 := hidIt be1
  by_cases hmany : 60 < len0 ∨ 60 < len1
  · by_cases h60 : 60 < len0
    · have g1 : (60 : Int) < (len0 : Int) := by omega
      clear hmany
      go_wp2_with (fail)
      go_ret
      exact ⟨rfl, be1.out⟩
    · have g1 : (len0 : Int) ≤ 60 := by omega
      have g2 : (60 : Int) < (len1 : Int) := by omega
      clear hmany h60
      go_wp2_with (fail)
      go_ret
      exact ⟨rfl, be1.out⟩
  · have g1 : (len0 : Int) ≤ 60 := by omega
    have g2 : (len1 : Int) ≤ 60 := by omega
    have s0 : len0 ≤ 60 := by omega
    have s1 : len1 ≤ 60 := by omega
    have z0 : Hid (ps.length ≤ 60) := by have := n0.out; show _ ≤ _; omega
    have z1 : Hid (qs.length ≤ 60) := by have := n1.out; show _ ≤ _; omega
    have dpb : Hid (dp ≤ 60) := by have := hdp.out; have := Pl.d1_le ps; have := z0.out; show _ ≤ _; omega
    clear hmany
    go_wp2_with (fail)
    refine (trimR_any a0 len0 cap0 ps n0.out hp.out (by omega) _ (b0.out.below be1.out)).mono ?_
    rintro e w2 ⟨⟨a2, m2, c2, rfl, hm2, hb2⟩, hbel⟩
    have hm2' := hidIt hm2
    have hb2' := hidIt hb2
    have be2 := hidIt (then_below be1.out hbel)
    clear hm2 hb2 hbel be1
    go_wp2_with (fail)
    refine (reftrim_any a0 len0 cap0 ps hp.out (by omega) _ (d0.out.below be2.out)).mono ?_
    rintro e w3 ⟨⟨a3, m3, c3, rfl, hr3⟩, hbel⟩
    have hr3' := hidIt hr3
    have hb3' := hidIt (hb2'.out.below hbel)
    have be3 := hidIt (then_below be2.out hbel)
    clear hr3 hbel be2 hb2'
    go_wp2_with (fail)
    refine (same6b _ _ m2 m3 _ _ (Pl.trim ps) (Pl.trim ps) true hm2'.out hr3'.out.len (co_trim_lt hp.out) (co_trim_lt hp.out) (decide_eq_true rfl) _ hb3'.out hr3'.out.bytes).mono ?_
    rintro e w4 ⟨rfl, hbel⟩
    have be4 := hidIt (then_below be3.out hbel)
    clear hbel be3 hb3' hr3'
    go_wp2_with (fail)
    refine (degree_any a0 len0 cap0 ps n0.out hp.out (by omega) _ (b0.out.below be4.out)).mono ?_
    rintro e w5 ⟨rfl, rfl⟩
    rw [hdp.out]
    go_wp2_with (fail)
    refine (refdeg_any a0 len0 cap0 ps hp.out (by omega) _ (d0.out.below be4.out)).mono ?_
    rintro e w5 ⟨rfl, hbel⟩
    rw [hdp.out]
    have be5 := hidIt (then_below be4.out hbel)
    clear hbel be4
    go_wp2_with (fail)
    refine (addR_any a0 a1 len0 len1 cap0 cap1 ps qs n0.out n1.out hp.out hq.out (by omega) (by omega) _ (b0.out.below be5.out) (b1.out.below be5.out)).mono ?_
    rintro e w6 ⟨⟨a6, m6, c6, rfl, hm6, hb6⟩, hbel⟩
    have hm6' := hidIt hm6
    have hb6' := hidIt hb6
    have be6 := hidIt (then_below be5.out hbel)
    clear hm6 hb6 hbel be5
    go_wp2_with (fail)
    refine (refadd_any a0 a1 len0 len1 cap0 cap1 ps qs hp.out hq.out (by omega) (by omega) _ (d0.out.below be6.out) (d1.out.below be6.out)).mono ?_
    rintro e w7 ⟨⟨a7, m7, c7, rfl, hr7⟩, hbel⟩
    have hr7' := hidIt hr7
    have hb7' := hidIt (hb6'.out.below hbel)
    have be7 := hidIt (then_below be6.out hbel)
    clear hr7 hbel be6 hb6'
    go_wp2_with (fail)
    refine (same6b _ _ m6 m7 _ _ (Pl.trim (plus ps qs)) (Pl.trim (plus ps qs)) true hm6'.out hr7'.out.len (co_trim_lt (plus_lt hp.out hq.out)) (co_trim_lt (plus_lt hp.out hq.out)) (decide_eq_true rfl) _ hb7'.out hr7'.out.bytes).mono ?_
    rintro e w8 ⟨rfl, hbel⟩
    have be8 := hidIt (then_below be7.out hbel)
    clear hbel be7 hb7' hr7'
    go_wp2_with (fail)
    refine (mulT_any a0 a1 len0 len1 cap0 cap1 ps qs n0.out n1.out hp.out hq.out (by omega) (by omega) _ (b0.out.below be8.out) (b1.out.below be8.out)).mono ?_
    rintro e w9 ⟨⟨a9, m9, c9, rfl, hm9, hb9⟩, hbel⟩
    have hm9' := hidIt hm9
    have hb9' := hidIt hb9
    have be9 := hidIt (then_below be8.out hbel)
    clear hm9 hb9 hbel be8
    go_wp2_with (fail)
    refine (refpmul_any a0 a1 len0 len1 cap0 cap1 ps qs hp.out hq.out (by omega) (by omega) _ (d0.out.below be9.out) (d1.out.below be9.out)).mono ?_
    rintro e w10 ⟨⟨a10, m10, c10, rfl, hr10⟩, hbel⟩
    have hr10' := hidIt hr10
    have hb10' := hidIt (hb9'.out.below hbel)
    have be10 := hidIt (then_below be9.out hbel)
    clear hr10 hbel be9 hb9'
    go_wp2_with (fail)
    refine (same6b _ _ m9 m10 _ _ (timesT ps qs) (timesT ps qs) true hm9'.out hr10'.out.len (timesT_lt hp.out) (timesT_lt hp.out) (decide_eq_true rfl) _ hb10'.out hr10'.out.bytes).mono ?_
    rintro e w11 ⟨rfl, hbel⟩
    have be11 := hidIt (then_below be10.out hbel)
    clear hbel be10 hb10' hr10'
    have hz : Hid (rowA .u8 (fun _ => 0) m 0 = rowA .u8 (fun _ => 0) m m) := by show _ = _; simp [rowA]
    have hB : Hid (Blk (w11.alloc (.cells (rowA .u8 (fun _ => 0) m 0) 5)) w11.heap.size 5 (rowA .u8 (fun _ => 0) m m)) := by
      show Blk _ _ _ _
      rw [← hz.out]
      exact Blk.new w11 5 _
    have cA : (w11.alloc (.cells (rowA .u8 (fun _ => 0) m 0) 5)).cell? ⟨w11.heap.size, n, none⟩ = some (.int .u8 0) := by rw [hB.out.cell, rowA_all _ _ _ _ (by omega)]; rfl
    have cB := hB.out.frozen n
    have hrow : Hid ((rowA .u8 (fun _ => 0) m 0).setIfInBounds n (.int .u8 1) = rowA .u8 (fun i => if i = n then 1 else 0) m m) := by
      show _ = _
      rw [hz.out]
      exact rowA_upd .u8 (fun _ => 0) m n 1
    have hbA : Hid (Below w11.heap.size w11 (w11.alloc (.cells ((rowA .u8 (fun _ => 0) m 0).setIfInBounds n (.int .u8 1)) 5))) := (Below.refl _ w11).alloc (Nat.le_refl _) _
    have hBX : Hid (Bytes (w11.alloc (.cells ((rowA .u8 (fun _ => 0) m 0).setIfInBounds n (.int .u8 1)) 5)) (some ⟨w11.heap.size, 0, none⟩) (pwX n)) := by
      have h5 := Blk.new w11 5 ((rowA .u8 (fun _ => 0) m 0).setIfInBounds n (.int .u8 1))
      have h6 : Blk (w11.alloc (.cells ((rowA .u8 (fun _ => 0) m 0).setIfInBounds n (.int .u8 1)) 5)) w11.heap.size 5 (rowA .u8 (fun i => if i = n then 1 else 0) m m) := hrow.out ▸ h5
      refine blk_bytes (n := m) h6 (pwX n) (by rw [pwX_len]; exact hm.out) (by omega) (fun i hi => ?_)
      have := pwX_co n i
      show Pl.co _ _ = _
      rw [this, Nat.zero_add]; rfl
    clear hz hB
    go_wp2_with (fail)
    obtain ⟨w12, hw12⟩ : ∃ w12, Hid (w12 = w11.alloc (.cells ((rowA .u8 (fun _ => 0) m 0).setIfInBounds n (.int .u8 1)) 5)) := ⟨_, rfl⟩
    rw [← hw12.out] at hbA hBX ⊢
    have be12 := hidIt (then_below be11.out hbA.out)
    have hXl : Hid (m = (pwX n).length) := by show _ = _; rw [pwX_len]; exact hm.out.symm
    clear cA cB hbA be11
    by_cases hdz : dp = 0
    · refine (mulz2_any _ a0 m len0 m cap0 (pwX n) ps hXl.out n0.out (pwX_lt n) hp.out (by omega) (by omega) (by rw [pwX_d1]; omega) (by rw [hdp.out]; exact hdz) w12 hBX.out (b0.out.below be12.out)).mono ?_
      rintro e w13 ⟨rfl, hbel⟩
      have be13 := hidIt (then_below be12.out hbel)
      clear hbel be12
      go_wp2_with (fail)
      refine (refdeg_any a0 len0 cap0 ps hp.out (by omega) _ (d0.out.below be13.out)).mono ?_
      rintro e w14 ⟨rfl, hbel⟩
      rw [hdp.out, hdz, show ((0 : Nat) : Int) - 1 = -1 from rfl]
      have be14 := hidIt (then_below be13.out hbel)
      clear hbel be13 hdz
      go_wp2_with (fail)
      go_ret
      exact ⟨rfl, be14.out⟩
    · obtain ⟨k, hk⟩ : ∃ k, Hid (dp = k + 1) := ⟨dp - 1, by show _ = _; omega⟩
      have hk1 : (dp : Int) - 1 = (k : Int) := by have := hk.out; omega
      obtain ⟨s, hs⟩ : ∃ s, Hid (n + k = s) := ⟨_, rfl⟩
      have e4 : (n : Int) + (k : Int) = (s : Int) := by have := hs.out; omega
      have sb : Hid (s ≤ 2000) := by have := hs.out; have := hk.out; have := dpb.out; show _ ≤ _; omega
      have e5 : IntKind.i64.wrap (s : Int) = (s : Int) := IntWalk.i64_in _ (by have := sb.out; omega)
      by_cases hbig : 1023 < s
      · refine (mull_any _ a0 m len0 m cap0 (pwX n) ps hXl.out n0.out (pwX_lt n) hp.out (by omega) (by omega) (by rw [pwX_d1]; omega) (by rw [hdp.out]; omega) (by rw [pwX_d1, hdp.out]; have := hs.out; have := hk.out; omega) w12 hBX.out (b0.out.below be12.out)).mono ?_
        rintro e w13 ⟨rfl, hbel⟩
        have be13 := hidIt (then_below be12.out hbel)
        clear hbel be12
        go_wp2_with (fail)
        refine (refdeg_any a0 len0 cap0 ps hp.out (by omega) _ (d0.out.below be13.out)).mono ?_
        rintro e w14 ⟨rfl, hbel⟩
        rw [hdp.out, hk1]
        have be14 := hidIt (then_below be13.out hbel)
        have e6 : (1023 : Int) < (s : Int) := by omega
        clear hbel be13 hdz
        go_wp2_with (fail)
        go_ret
        exact ⟨rfl, be14.out⟩
      · refine (mul2_any _ a0 m len0 m cap0 (pwX n) ps hXl.out n0.out (pwX_lt n) hp.out (by omega) (by omega) (by rw [pwX_d1]; omega) (by rw [hdp.out]; omega) (by rw [pwX_d1, hdp.out]; have := hs.out; have := hk.out; omega) w12 hBX.out (b0.out.below be12.out)).mono ?_
        rintro e w13 ⟨⟨v, rfl, hmade⟩, hbel⟩
        obtain ⟨tl, td, tc⟩ := pwX_times hp.out (by rw [hdp.out]; omega) n
        obtain ⟨l, hl⟩ : ∃ l, Hid ((times (pwX n) ps).length = l) := ⟨_, rfl⟩
        obtain ⟨g, rfl, _, _, hby⟩ := hmade.at l hl.out
        have be13 := hidIt (then_below be12.out hbel)
        have hby' := hidIt hby
        have hlx : Hid (∀ i, (times (pwX n) ps).getD i 0 < 256) := by
          have e : timesT (pwX n) ps = times (pwX n) ps := by unfold timesT; rw [if_neg (by rw [pwX_d1, hdp.out]; omega)]
          show ∀ i, _
          rw [← e]; exact timesT_lt (pwX_lt n)
        have hls : Hid (l = s + 1) := by show _ = _; rw [← hl.out, tl, hdp.out]; have := hs.out; have := hk.out; omega
        have htd : Hid (Pl.d1 (times (pwX n) ps) = s + 1) := by show _ = _; rw [td, hdp.out]; have := hs.out; have := hk.out; omega
        have htc := hidIt tc
        clear hbel be12 hmade hby tl td tc
        go_wp2_with (fail)
        refine (refdeg_any a0 len0 cap0 ps hp.out (by omega) _ (d0.out.below be13.out)).mono ?_
        rintro e w14 ⟨rfl, hbel⟩
        rw [hdp.out, hk1]
        have be14 := hidIt (then_below be13.out hbel)
        have hby2 := hidIt (hby'.out.below hbel)
        have e6 : (s : Int) ≤ 1023 := by omega
        clear hbel be13 hdz hby'
        obtain ⟨pz, hpz⟩ : ∃ y, Hid (Pl.co ps 0 = y) := ⟨_, rfl⟩
        obtain ⟨b, off, hbo, f1⟩ := hby2.out n (by rw [hl.out]; have := hls.out; have := hs.out; omega)
        cases hbo
        rw [show (times (pwX n) ps).getD n 0 = pz from htc.out.trans hpz.out, Nat.zero_add] at f1
        have f2 : (n : Int) < (l : Int) := by have := hls.out; have := hs.out; omega
        have f3 : ((s + 1 : Nat) : Int) - 1 = (s : Int) := by omega
        have lb : l ≤ 3000 := by have := hls.out; have := sb.out; omega
        have dm : ∀ W : World, Bytes W (some ⟨g, 0, none⟩) (times (pwX n) ps) → Calls Try.prog 17 #[.slice (some ⟨g, 0, none⟩) l l] W fun e w' => e = .returned (.int .i64 (s : Int)) ∧ w' = W := fun W hW => by
          refine (degree_any _ l l (times (pwX n) ps) hl.out.symm hlx.out (by omega) W hW).mono ?_
          rintro e w' ⟨rfl, rfl⟩
          rw [htd.out, f3]
          exact ⟨rfl, rfl⟩
        have dm' := hidIt dm
        have am : ∀ W : World, Below w.heap.size w W → Calls Try.prog 23 #[.slice a0 len0 cap0, .int .i64 0] W fun e w' => e = .returned (.int .u8 (pz : Int)) ∧ w' = W := fun W hW => (refat_any a0 len0 cap0 0 ps W (d0.out.below hW) pz hpz.out).mono fun _ _ ⟨h, k⟩ => ⟨h, k.symm⟩
        have am' := hidIt am
        clear dm am f3
        go_wp2_with (fail)
        go_quiet (first | (go_at_call 17; exact Calls.quiet_of_same (dm'.out _ (hby2.out.below (below_drewN (Below.refl _ _) _)))) | (go_at_call 23; exact Calls.quiet_of_same (am'.out _ (below_drewN be14.out _))))
        go_wp2
        go_ret
        exact ⟨rfl, below_drewN be14.out _⟩
end Go.Proofs.Ytbdjnkndjimlcaa
