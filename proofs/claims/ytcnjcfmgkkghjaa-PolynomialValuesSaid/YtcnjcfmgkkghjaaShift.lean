import Derived.Test.YtcnjcfmgkkghjaaPlSh
import Derived.StillTailTactics
namespace Go.Proofs.Ytcnjcfmgkkghjaa
open Go.RowKit
theorem and_tab : ∀ j : Fin 7, ∀ k : Fin 64, (bits BinOp.and IntKind.i64 (k.val : Int) ((2 ^ j.val : Nat) : Int) == 0) = decide (k.val / 2 ^ j.val % 2 = 0) := by decide +kernel
theorem and_bit {j k h : Nat} (hj : j < 7) (hk : k < 64) (hh : h = 2 ^ j) : (bits BinOp.and IntKind.i64 (k : Int) (h : Int) == 0) = decide (k / h % 2 = 0) := by subst hh; exact and_tab ⟨j, hj⟩ ⟨k, hk⟩
theorem rnd_zero (h q L : Nat) (F : Nat → Nat) (i : Nat) : rnd h q L F 0 i = F i := by unfold rnd; rw [if_neg (by omega)]
theorem rnd_end {h q L : Nat} {F : Nat → Nat} {k : Nat} (hk : L ≤ k + h) (_hl : k ≤ L) (i : Nat) : rnd h q L F k i = rnd h q L F L i := by
  unfold rnd
  by_cases hc : i + h < L ∧ i / h % 2 = 0
  · rw [if_pos ⟨by omega, hc⟩, if_pos ⟨by omega, hc⟩]
  · rw [if_neg (fun e => hc e.2), if_neg (fun e => hc e.2)]
theorem rnd_at {h q L : Nat} {F : Nat → Nat} {k i : Nat} (hk : k ≤ i) : rnd h q L F k i = F i := by unfold rnd; rw [if_neg (by omega)]
theorem rnd_yes {h q L : Nat} {F : Nat → Nat} {k : Nat} (hk : k + h < L) (hb : k / h % 2 = 0) (i : Nat) : rnd h q L F (k + 1) i = if i = k then F k ^^^ Gf.mul q (F (k + h)) else rnd h q L F k i := by
  unfold rnd
  by_cases hi : i = k
  · subst hi; rw [if_pos rfl, if_pos ⟨by omega, hk, hb⟩]
  · rw [if_neg hi]
    by_cases hc : i < k ∧ i + h < L ∧ i / h % 2 = 0
    · rw [if_pos hc, if_pos ⟨by omega, hc.2⟩]
    · rw [if_neg hc, if_neg (fun e => hc ⟨by omega, e.2⟩)]
theorem rnd_no {h q L : Nat} {F : Nat → Nat} {k : Nat} (hb : ¬ k / h % 2 = 0) (i : Nat) : rnd h q L F (k + 1) i = rnd h q L F k i := by
  unfold rnd
  by_cases hi : i = k
  · subst hi; rw [if_neg (fun e => hb e.2.2), if_neg (by omega)]
  · by_cases hc : i < k ∧ i + h < L ∧ i / h % 2 = 0
    · rw [if_pos hc, if_pos ⟨by omega, hc.2⟩]
    · rw [if_neg hc, if_neg (fun e => hc ⟨by omega, e.2⟩)]
theorem mulz_any (a b z : Nat) (ha : a < 256) (hb : b < 256) (hz : Gf.mul a b = z) (w : World) :
    Calls Try.prog 40 #[.int .u8 a, .int .u8 b] w fun e w' => e = .returned (.int .u8 (z : Int)) ∧ w = w' := hz ▸ mul_any a b ha hb w
theorem addz_any (a b z : Nat) (ha : a < 256) (hb : b < 256) (hz : a ^^^ b = z) (w : World) :
    Calls Try.prog 39 #[.int .u8 a, .int .u8 b] w fun e w' => e = .returned (.int .u8 (z : Int)) ∧ w = w' := hz ▸ add_any a b ha hb w
set_option maxRecDepth 100000 in
set_option maxHeartbeats 1000000 in
theorem shifted_any (a : Option Addr) (n c r : Nat) (xs : List Nat) (hn : n = xs.length) (hx : ∀ i, xs.getD i 0 < 256) (hr : r < 256) (hbig : n ≤ 64) (w : World) (h : Bytes w a xs) :
    Calls Try.prog 36 #[.slice a n c, .int .u8 r] w fun e w' => (∃ v j, e = .returned v ∧ (Pl.trim xs).length ≤ 2 ^ j ∧ Made w w' v (shL r (Pl.trim xs) j)) ∧ Below w.heap.size w w' := by
  obtain ⟨ts, hts⟩ : ∃ ts, Hid (Pl.trim xs = ts) := ⟨_, rfl⟩
  have htb : Hid (∀ i, Pl.co ts i < 256) := by show ∀ i, _; rw [← hts.out]; exact co_trim_lt hx
  have htl : Hid (ts.length ≤ 64) := by show _ ≤ _; rw [← hts.out]; have := trim_le (xs := xs) (a := 64) (by omega); exact this
  have n2 := hidIt hn
  have x2 := hidIt hx
  have i2 := hidIt h
  have r2 := hidIt hr
  have nb : Hid (n ≤ 140737488355328) := by show _ ≤ _; omega
  clear hn hx h hbig hr
  go_enter Try.func36, Try.ntmps36
  go_wp2_with (fail)
  refine (trim2_any a n c xs n2.out x2.out nb.out _ i2.out).mono ?_
  rintro e w1 ⟨⟨v1, rfl, hm1⟩, hb1⟩
  rw [hts.out] at hm1
  obtain ⟨g, rfl, hg, hblk⟩ := hm1
  obtain ⟨L, hL⟩ : ∃ L, Hid (ts.length = L) := ⟨_, rfl⟩
  rw [hL.out] at htl hblk ⊢
  have hB0 := hidIt hblk
  have hg2 := hidIt hg
  have hb2 := hidIt hb1
  obtain ⟨F, hF⟩ : ∃ F : Nat → Nat → Nat, Hid (F = fun j => shf r L (Pl.co ts) j) := ⟨_, rfl⟩
  have hFb : Hid (∀ j i, F j i < 256) := by show ∀ j i, _; rw [hF.out]; exact fun j i => shf_lt htb.out j i
  have hB1 : Hid (Blk w1 g 5 (rowA .u8 (F 0) L L)) := by show Blk _ _ _ _; rw [hF.out]; exact hblk
  have hFs : Hid (∀ j i, F (j + 1) i = rnd (2 ^ j) (Gf.pw r (2 ^ j)) L (F j) L i) := fun j i => by rw [hF.out]; rfl
  clear hb1 hblk hg hB0
  go_wp2_with (fail)
  go_loopw [7, 6, 8] (fun hv pv _ wr => ∃ j h p : Nat, hv = .int .i64 (h : Int) ∧ pv = .int .u8 (p : Int) ∧ h ≤ 128 ∧ Hid (h = 2 ^ j) ∧ Hid (p = Gf.pw r (2 ^ j)) ∧ Hid (Blk wr g 5 (rowA .u8 (F j) L L)) ∧ Hid (Below w.heap.size w wr)) (fun hv _ _ _ => L - (intOf hv).toNat)
  case atStart => exact ⟨0, 1, r, rfl, rfl, by omega, rfl, (by show r = Gf.mul 1 r; rw [Gf.one_mul r2.out]), hB1.out, hb2.out⟩
  case round =>
    clear hB1 hb2
    obtain ⟨j, h, p, rfl, rfl, hh, hhj, hpj, hrow, hb⟩ := hrel
    have pb : p < 256 := by rw [hpj.out]; exact Gf.pw_lt _ _
    have h0 : 0 < h := by rw [hhj.out]; exact Nat.two_pow_pos j
    by_cases hlt : h < L
    · have t1 : (h : Int) < (L : Int) := by omega
      have hj7 : Hid (j < 7) := by
        show j < 7
        rcases Nat.lt_or_ge j 7 with h1 | h1
        · exact h1
        · have h2 := Nat.pow_le_pow_right (show 0 < 2 by decide) h1
          rw [← hhj.out] at h2
          have := htl.out
          omega
      obtain ⟨M, hM⟩ : ∃ M, Hid (h + M = L) := ⟨L - h, by show _ = _; omega⟩
      have eM : (L : Int) - (h : Int) = (M : Int) := by have := hM.out; omega
      have eM2 : IntKind.i64.wrap (M : Int) = (M : Int) := IntWalk.i64_in _ (by have := hM.out; have := htl.out; omega)
      obtain ⟨R, hR⟩ : ∃ R : Nat → Nat → Nat, Hid (R = rnd h p L (F j)) := ⟨_, rfl⟩
      have hRz : Hid (Blk wr g 5 (rowA .u8 (R 0) L L)) := by
        show Blk _ _ _ _
        rw [rowA_congr (g := F j) (fun i _ => by rw [hR.out, rnd_zero])]
        exact hrow.out
      clear hrow
      go_wp2_with (fail)
      go_loopw [22, 8] (fun i _ wr => ∃ k : Nat, k ≤ M ∧ i = .int .i64 (k : Int) ∧ Hid (Blk wr g 5 (rowA .u8 (R k) L L)) ∧ Hid (Below w.heap.size w wr)) (fun i _ _ => M - (intOf i).toNat)
      case atStart => exact ⟨0, by omega, rfl, hRz.out, hb.out⟩
      case round =>
        clear hRz hb
        obtain ⟨k, hk, rfl, hrow, hb⟩ := hrel
        by_cases hlt2 : k < M
        · have t2 : (k : Int) < (M : Int) := by omega
          have hk64 : k < 64 := by have := hM.out; have := htl.out; omega
          have hab := and_bit hj7.out hk64 hhj.out
          by_cases hbit : k / h % 2 = 0
          · have t3 : (bits BinOp.and IntKind.i64 (k : Int) (h : Int) == 0) = true := by rw [hab]; exact decide_eq_true hbit
            have hbit' := hidIt hbit
            obtain ⟨s, hs⟩ : ∃ s, Hid (k + h = s) := ⟨_, rfl⟩
            have e4 : (k : Int) + (h : Int) = (s : Int) := by have := hs.out; omega
            have hsL : Hid (s < L) := by have := hs.out; have := hM.out; show _ < _; omega
            have hkL : k < L := by have := hs.out; have := hsL.out; omega
            have e5 : IntKind.i64.wrap (s : Int) = (s : Int) := IntWalk.i64_in _ (by have := hsL.out; have := htl.out; omega)
            have e6 : (s : Int) < (L : Int) := by have := hsL.out; omega
            have e7 : (k : Int) < (L : Int) := by omega
            obtain ⟨x, hx⟩ : ∃ x, Hid (F j k = x) := ⟨_, rfl⟩
            obtain ⟨y, hy⟩ : ∃ y, Hid (F j s = y) := ⟨_, rfl⟩
            have xb : x < 256 := by rw [← hx.out]; exact hFb.out _ _
            have yb : y < 256 := by rw [← hy.out]; exact hFb.out _ _
            have d1 : wr.cell? ⟨g, k, none⟩ = some (.int .u8 (x : Int)) := by rw [hrow.out.cell, rowA_all _ _ _ _ hkL, hR.out, rnd_at (Nat.le_refl _), hx.out]
            have d2 : wr.cell? ⟨g, s, none⟩ = some (.int .u8 (y : Int)) := by rw [hrow.out.cell, rowA_all _ _ _ _ hsL.out, hR.out, rnd_at (by have := hs.out; omega), hy.out]
            have d3 := hrow.out.frozen k
            obtain ⟨z, hz⟩ : ∃ z, Hid (Gf.mul p y = z) := ⟨_, rfl⟩
            have zb : z < 256 := by rw [← hz.out]; exact Gf.mul_lt _ pb
            obtain ⟨u, hu⟩ : ∃ u, Hid (x ^^^ z = u) := ⟨_, rfl⟩
            clear hab hbit
            go_wp2
            go_still_tail 16, (by kernel_rfl)
            still_call ((mulz_any p y z pb yb hz.out _).mono fun _ _ h => ⟨h.1, h.2.symm⟩)
            repeat still_step
            still_call ((addz_any x z u xb zb hu.out _).mono fun _ _ h => ⟨h.1, h.2.symm⟩)
            repeat still_step
            refine wpStill_nil ?_
            change wpList _ _ _ _ _ wr.drew
            have hrow3 := hidIt hrow.out
            have hb3 := hidIt hb.out
            clear hrow hb
            go_wp2
            go_roundw
            case rel =>
              refine ⟨k + 1, by omega, by go_num, ?_, (hb3.out.setCell hg2.out _).drew⟩
              have h5 := hrow3.out.set_ k (.int .u8 (u : Int))
              rw [rowA_upd] at h5
              show Blk _ _ _ _
              rw [rowA_congr (f := R (k + 1)) (g := fun i => if i = k then u else R k i) (fun i _ => ?_)]
              · exact h5
              · rw [hR.out, rnd_yes (by have := hs.out; have := hsL.out; omega) hbit'.out, hs.out, hx.out, hy.out, hz.out, hu.out]
            case measure => simp [intOf]; omega
          · have t3 : (bits BinOp.and IntKind.i64 (k : Int) (h : Int) == 0) = false := by rw [hab]; exact decide_eq_false hbit
            have hrow3 : Hid (Blk wr g 5 (rowA .u8 (R (k + 1)) L L)) := by
              show Blk _ _ _ _
              rw [rowA_congr (g := R k) (fun i _ => by rw [hR.out, rnd_no hbit])]
              exact hrow.out
            have hb3 := hidIt hb.out
            clear hrow hb hab hbit
            go_wp2
            go_roundw
            case rel => exact ⟨k + 1, by omega, by go_num, hrow3.out, hb3.out⟩
            case measure => simp [intOf]; omega
        · obtain rfl : k = M := by omega
          have t2 : ¬ (k : Int) < (k : Int) := by omega
          obtain ⟨q, hq⟩ : ∃ q, Hid (Gf.mul p p = q) := ⟨_, rfl⟩
          obtain ⟨h2, hh2⟩ : ∃ h2, Hid (h * 2 = h2) := ⟨_, rfl⟩
          have e8 : (h : Int) * 2 = (h2 : Int) := by have := hh2.out; omega
          have e9 : IntKind.i64.wrap (h2 : Int) = (h2 : Int) := IntWalk.i64_in _ (by have := hh2.out; omega)
          have hrow3 : Hid (Blk wr g 5 (rowA .u8 (F (j + 1)) L L)) := by
            show Blk _ _ _ _
            rw [rowA_congr (g := R k) (fun i _ => by rw [hFs.out, ← hpj.out, ← hhj.out, hR.out]; exact (rnd_end (by have := hM.out; omega) (by have := hM.out; omega) i).symm)]
            exact hrow.out
          have hb3 := hidIt hb.out
          have hq2 : Hid (q = Gf.pw r (2 ^ (j + 1))) := by
            show _ = _
            rw [← hq.out, hpj.out, Nat.pow_succ, Nat.mul_two, Pl.pw_add r2.out]
          have hh3 : Hid (h2 = 2 ^ (j + 1)) := by show _ = _; rw [← hh2.out, hhj.out, Nat.pow_succ]
          clear hrow hb
          go_wp2_with (fail)
          refine (mulz_any p p q pb pb hq.out _).mono ?_
          rintro e w5 ⟨rfl, rfl⟩
          go_wp2_with (fail)
          go_roundw
          case rel => exact ⟨j + 1, h2, q, rfl, rfl, by have := hh2.out; have := htl.out; omega, hh3.out, hq2.out, hrow3.out, hb3.out⟩
          case measure => simp [intOf]; have := hh2.out; omega
    · have t1 : ¬ (h : Int) < (L : Int) := by omega
      have hle : Hid (ts.length ≤ 2 ^ j) := by show _ ≤ _; rw [hL.out, ← hhj.out]; omega
      go_wp2
      go_ret
      refine ⟨⟨_, rfl, j, by rw [hts.out]; exact hle.out, g, ?_, hg2.out, ?_⟩, hb.out⟩
      · have e : (shL r (Pl.trim xs) j).length = L := by rw [hts.out]; unfold shL; rw [Pl.fn_len, hL.out]
        rw [e]
        rfl
      · rw [hts.out]
        have e : (shL r ts j).length = L := by unfold shL; rw [Pl.fn_len, hL.out]
        rw [e, rowA_congr (g := F j) (fun i hi => by rw [hF.out]; unfold shL; show Pl.co _ _ = _; rw [Pl.fn_co, hL.out, if_pos hi])]
        exact hrow.out
end Go.Proofs.Ytcnjcfmgkkghjaa
