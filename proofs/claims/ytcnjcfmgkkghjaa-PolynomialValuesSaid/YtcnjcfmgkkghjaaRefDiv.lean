import Derived.Test.YtcnjcfmgkkghjaaRefB
namespace Go.Proofs.Ytcnjcfmgkkghjaa
open Go.RowKit
set_option maxRecDepth 100000 in
theorem refinv_any (a : Nat) (ha : a < 256) (h0 : a ≠ 0) (w : World) :
    Calls Try.prog 49 #[.int .u8 a] w fun e w' => e = .returned (.int .u8 (Gf.inv a)) ∧ w = w' := by
  have hi : Gf.inv a < 256 := Gf.pw_lt a 254
  have hi0 := Gf.inv_ne ha h0
  have H := hidIt (Gf.mul_inv ha h0)
  have U := hidIt (fun b hb h => Gf.inv_unique (b := b) ha h0 hb h)
  clear h0
  go_enter Try.func49, Try.ntmps49
  go_wp2
  go_loop [3] (fun i => ∃ k : Nat, 1 ≤ k ∧ k ≤ Gf.inv a ∧ i = .int .i64 k) (fun i => 256 - (intOf i).toNat)
  case atStart => exact ⟨1, by omega, by omega, rfl⟩
  case round =>
    obtain ⟨k, hk1, hk, rfl⟩ := hrel
    have hk8 : k < 256 := by omega
    by_cases he : Gf.mul a k = 1
    · have hq := hidIt (U.out k hk8 he)
      go_wp2_with (fail)
      refine (refmul_any a k ha hk8 _).mono ?_
      rintro e w' ⟨rfl, rfl⟩
      have he : ((Gf.mul a k : Nat) : Int) = 1 := by omega
      go_wp2_with (fail)
      go_ret
      exact ⟨ret_u8 (by rw [← hq.out]), rfl⟩
    · have hne : (((Gf.mul a k : Nat) : Int) == 1) = false := by simp; omega
      have hlt : k < Gf.inv a := by
        rcases Nat.lt_or_eq_of_le hk with h | h
        · exact h
        · exact absurd (by rw [h]; exact H.out) he
      clear he
      go_wp2_with (go_at_call 41; refine (refmul_any a k ha hk8 _).mono ?_; rintro e w' ⟨rfl, rfl⟩)
      go_round
      case rel => exact ⟨k + 1, by omega, by omega, by go_num⟩
      case measure => simp [intOf]; omega
set_option maxRecDepth 100000 in
set_option maxHeartbeats 2000000 in
theorem refdivmod_any (a1 a2 : Option Addr) (n1 n2 c1 c2 : Nat) (xs ys : List Nat) (hx : ∀ i, xs.getD i 0 < 256) (hy : ∀ i, ys.getD i 0 < 256) (hb1 : n1 ≤ 100) (hb2 : n2 ≤ 100) (h02 : 0 < Pl.d1 ys) (w : World) (h1 : Rd w a1 n1 c1 xs) (h2 : Rd w a2 n2 c2 ys) :
    Calls Try.prog 46 #[.slice a1 n1 c1, .slice a2 n2 c2] w fun e w' => (∃ a m c b l d D R, e = .returned (.tuple #[.slice a m c, .slice b l d]) ∧ Rd w' a m c D ∧ Rd w' b l d R ∧ DivOk xs ys D R) ∧ Below w.heap.size w w' := by
  obtain ⟨Q, hQ⟩ : ∃ Q, Hid (Q = Pl.trim ys) := ⟨_, rfl⟩
  obtain ⟨M, hM⟩ : ∃ M, Hid (M = Pl.d1 ys) := ⟨_, rfl⟩
  obtain ⟨D, hD⟩ : ∃ D, Hid (M = D + 1) := ⟨M - 1, by show _ = _; rw [hM.out]; omega⟩
  obtain ⟨L, hL⟩ : ∃ L, Hid (L = n1 + 1) := ⟨_, rfl⟩
  have hQl : Hid (Q.length = M) := by show _ = _; rw [hQ.out, Pl.trim_len, hM.out]
  have hQn : Hid (Pl.Nf Q) := by show Pl.Nf _; rw [hQ.out]; exact Pl.trim_nf ys
  have hQb : Hid (∀ i, Q.getD i 0 < 256) := fun i => by rw [hQ.out]; exact co_trim_lt hy i
  have hMb : Hid (M ≤ 100) := by show _ ≤ _; have := Pl.d1_le ys; rw [hM.out]; have := h2.len; omega
  obtain ⟨lq, hlq⟩ : ∃ lq, Hid (Q.getD D 0 = lq) := ⟨_, rfl⟩
  have hlb : lq < 256 := by rw [← hlq.out]; exact hQb.out D
  have hl0 : lq ≠ 0 := by
    rw [← hlq.out]
    have := Pl.d1_top Q (by rw [show Pl.d1 Q = Q.length from hQn.out, hQl.out, hD.out]; omega)
    rw [show Pl.d1 Q = Q.length from hQn.out, hQl.out, hD.out] at this
    exact this
  have hib : Gf.inv lq < 256 := Gf.pw_lt _ 254
  have r1 : (M : Int) - 1 = (D : Int) := by have := hD.out; omega
  have r2 : (D : Int) < (M : Int) := by omega
  have r3 : D ≤ 100 := by have := hMb.out; have := hD.out; omega
  have r5 : (n1 : Int) + 1 = (L : Int) := by have := hL.out; omega
  have hmk := makeLen L (by have := hL.out; omega)
  have d1 := hidIt h1
  have d2 := hidIt h2
  have x2 := hidIt hx
  have y2 := hidIt hy
  have hp1 := hidIt h02
  clear h1 h2 hx hy h02
  go_enter Try.func46, Try.ntmps46
  go_wp2_with (fail)
  refine (reftrim_any a1 n1 c1 xs x2.out (by omega) _ d1.out).mono ?_
  rintro e w1 ⟨⟨ap, mp, cp, rfl, hrp⟩, be1⟩
  have hrp' := hidIt hrp
  replace be1 := hidIt be1
  clear hrp
  go_wp2_with (fail)
  refine (reftrim_any a2 n2 c2 ys y2.out (by omega) _ (d2.out.below be1.out)).mono ?_
  rintro e w2 ⟨⟨aq, mq, cq, rfl, hrq⟩, be2⟩
  rw [← hQ.out] at hrq
  obtain rfl : mq = M := by rw [hrq.len, hQl.out]
  have hrp2 := hidIt (hrp'.out.below be2)
  have be3 := hidIt (then_below be1.out be2)
  obtain ⟨bq, oq, rfl, e1⟩ := hrq.bytes D (by rw [hQl.out, hD.out]; omega)
  rw [hlq.out] at e1
  have hbq : Hid (bq < w2.heap.size) := bytes_lt e1
  have hrq' := hidIt hrq
  have hb0 : Hid (Below w2.heap.size w2 (w2.alloc (.cells (rowA .u8 (fun _ => 0) L 0) 5))) := (Below.refl _ w2).alloc (Nat.le_refl _) _
  have e1' : (w2.alloc (.cells (rowA .u8 (fun _ => 0) L 0) 5)).cell? ⟨bq, oq + D, none⟩ = some (.int .u8 (lq : Int)) := (hb0.out.cell (p := ⟨bq, oq + D, none⟩) hbq.out).trans e1
  clear e1 be1 be2 hrp' hrq
  go_wp2_with (fail)
  refine (refinv_any lq hlb hl0 _).mono ?_
  rintro e w3 ⟨rfl, rfl⟩
  go_wp2_with (fail)
  obtain ⟨w0, hw0⟩ : ∃ w0, Hid (w0 = w2.alloc (.cells (rowA .u8 (fun _ => 0) L 0) 5)) := ⟨_, rfl⟩
  have hs0 : Hid (w0.heap.size = w2.heap.size + 1) := by show _ = _; rw [hw0.out]; simp
  have hB0 : Hid (Blk w0 w2.heap.size 5 (rowA .u8 (fun _ => 0) L L)) := by
    show Blk _ _ _ _
    have e : rowA .u8 (fun _ => 0) L L = rowA .u8 (fun _ => 0) L 0 := by simp [rowA]
    rw [e, hw0.out]
    exact Blk.new w2 5 _
  rw [← hw0.out] at hb0 ⊢
  clear e1'
  go_loopw [6, 9, 10, 11] (fun r _ _ _ wr => ∃ (R : List Nat) (a : Option Addr) (m c : Nat) (Qf : Nat → Nat), r = .slice a m c ∧ Hid (Rd wr a m c R) ∧ Hid (∀ i, R.getD i 0 < 256) ∧ Hid (Pl.Nf R) ∧ Hid (m ≤ n1) ∧ Hid (0 < m → ∀ x, a = some x → x.block ≠ w2.heap.size) ∧ Hid (Blk wr w2.heap.size 5 (rowA .u8 Qf L L)) ∧ Hid (∀ i, Qf i < 256) ∧ Hid (∀ j, j + Q.length ≤ R.length → Qf j = 0) ∧ Hid (∀ j, L ≤ j → Qf j = 0) ∧ Hid (∀ j, Pl.co xs j = Pl.co R j ^^^ Pl.cv (Pl.co Q) Qf j) ∧ Hid (Rd wr (some ⟨bq, oq, none⟩) mq cq Q) ∧ Hid (Below w.heap.size w wr) ∧ Hid (w2.heap.size < wr.heap.size)) (fun r _ _ _ _ => slq r)
  case atStart =>
    refine ⟨Pl.trim xs, ap, mp, cp, fun _ => 0, rfl, hrp2.out.below hb0.out, co_trim_lt x2.out, Pl.trim_nf _, ?_, ?_, hB0.out, fun _ => (by decide : 0 < 256), fun _ _ => rfl, fun _ _ => rfl, fun j => ?_, hrq'.out.below hb0.out, be3.out.trans (hb0.out.mono be3.out.size), ?_⟩
    · have := hrp2.out.len; rw [Pl.trim_len] at this; have := Pl.d1_le xs; have := d1.out.len; show _ ≤ _; omega
    · intro h0 x hx
      obtain ⟨b, off, e, e2⟩ := hrp2.out.bytes 0 (by have := hrp2.out.len; omega)
      rw [hx] at e
      cases e
      have := bytes_lt e2
      simp; omega
    · rw [Pl.trim_co]
      have e : Pl.cv (Pl.co Q) (fun _ => 0) j = 0 := Pl.S_zero (fun i _ => Gf.mul_zero _)
      rw [e]; simp
    · have := hs0.out; show _ < _; omega
  case round =>
    obtain ⟨R, a, m, c, Qf, rfl, hR, hRb, hRn, hmn, hne, hq, hQf, hQ0, hQL, hid, hrq2, hb, hsz⟩ := hrel
    by_cases hgo : mq ≤ m
    · have t1 : (mq : Int) ≤ (m : Int) := by omega
      obtain ⟨s, hs⟩ : ∃ s, Hid (m = s + mq) := ⟨m - mq, by show _ = _; omega⟩
      have e3 : (m : Int) - (mq : Int) = (s : Int) := by have := hs.out; omega
      obtain ⟨t, ht⟩ : ∃ t, Hid (t = s + D) := ⟨_, rfl⟩
      have e4 : (m : Int) - 1 = (t : Int) := by have := hs.out; have := ht.out; have := hD.out; omega
      have e5 : (t : Int) < (m : Int) := by omega
      have hsL : Hid (s < L) := by have := hs.out; have := hL.out; have := hmn.out; show _ < _; omega
      have e6 : (s : Int) < (L : Int) := by have := hsL.out; omega
      obtain ⟨q, hqq⟩ : ∃ q, Hid (q = s + 1) := ⟨_, rfl⟩
      have e7 : (s : Int) + 1 = (q : Int) := by have := hqq.out; omega
      have e8 : (s : Int) < (q : Int) := by omega
      have hqb : Hid (q ≤ 200) := by have := hs.out; have := hqq.out; have := hmn.out; show _ ≤ _; omega
      have hmq := makeLen q (by have := hqb.out; omega)
      obtain ⟨b1, o1, rfl, f1⟩ := hR.out.bytes t (by have := hR.out.len; have := hs.out; have := ht.out; have := hD.out; omega)
      obtain ⟨u, hu⟩ : ∃ u, Hid (R.getD t 0 = u) := ⟨_, rfl⟩
      have ub : u < 256 := by rw [← hu.out]; exact hRb.out t
      rw [hu.out] at f1
      obtain ⟨k, hk⟩ : ∃ k, Hid (Gf.mul u (Gf.inv lq) = k) := ⟨_, rfl⟩
      have kb : k < 256 := by rw [← hk.out]; exact Gf.mul_lt _ ub
      have f2 : wr.cell? ⟨w2.heap.size, s, none⟩ = some (.int .u8 (Qf s : Int)) := by rw [hq.out.cell, rowA_all _ _ _ _ hsL.out]
      have f3 := hq.out.frozen s
      go_wp2_with (fail)
      refine (refmulz_any u (Gf.inv lq) k ub hib hk.out _).mono ?_
      rintro e w4 ⟨rfl, rfl⟩
      obtain ⟨w4, hw4⟩ : ∃ w4, Hid (w4 = wr.setCell ⟨w2.heap.size, s, none⟩ (.int .u8 (k : Int))) := ⟨_, rfl⟩
      have hz4 : Hid (w4.heap.size = wr.heap.size) := by show _ = _; rw [hw4.out]; simp [World.setCell]
      have hBT : Blk (w4.alloc (.cells (rowA .u8 (fun _ => 0) q 0) 5)) wr.heap.size 5 (rowA .u8 (fun _ => 0) q 0) := by
        have h5 := Blk.new w4 5 (rowA .u8 (fun _ => 0) q 0)
        rw [hz4.out] at h5
        exact h5
      have cT := hBT.cell s
      have fT := hBT.frozen s
      rw [rowA_get _ _ _ _ _ (by have := hqq.out; omega), if_neg (by omega), hw4.out] at cT
      rw [hw4.out] at fT
      clear hBT
      go_wp2_with (fail)
      obtain ⟨w5, hw5⟩ : ∃ w5, Hid (w5 = (wr.setCell ⟨w2.heap.size, s, none⟩ (.int .u8 (k : Int))).alloc (.cells ((rowA .u8 (fun _ => 0) q 0).setIfInBounds s (.int .u8 (k : Int))) 5)) := ⟨_, rfl⟩
      rw [← hw5.out]
      have hw54 : Hid (w5 = w4.alloc (.cells ((rowA .u8 (fun _ => 0) q 0).setIfInBounds s (.int .u8 (k : Int))) 5)) := by show _ = _; rw [hw5.out, hw4.out]
      have b45 : Hid (Below w4.heap.size w4 w5) := by show Below _ _ _; rw [hw54.out]; exact (Below.refl _ w4).alloc (Nat.le_refl _) _
      have hq4 : Hid (Blk w4 w2.heap.size 5 (rowA .u8 (fun i => if i = s then k else Qf i) L L)) := by
        have h5 := hq.out.set_ s (.int .u8 (k : Int))
        rw [rowA_upd, ← hw4.out] at h5
        exact h5
      have hR4 : Hid (Rd w4 (some ⟨b1, o1, none⟩) m c R) := ⟨hR.out.len, hR.out.bytes.blocks (fun x e => by rw [hw4.out]; exact Below.heap_setCell _ _ _ _ (hne.out (by have := hs.out; have := hD.out; omega) x e)), hR.out.nil, hR.out.cap⟩
      have hrq4 : Hid (Rd w4 (some ⟨bq, oq, none⟩) mq cq Q) := ⟨hrq2.out.len, hrq2.out.bytes.blocks (fun x e => by cases e; rw [hw4.out]; exact Below.heap_setCell _ _ _ _ (by have := hbq.out; simp; omega)), hrq2.out.nil, hrq2.out.cap⟩
      have hb4 : Hid (Below w.heap.size w w4) := by show Below _ _ _; rw [hw4.out]; exact hb.out.setCell (by have := be3.out.size; simp; omega) _
      have hTm : Hid (Rd w5 (some ⟨wr.heap.size, 0, none⟩) q q (term s k)) := by
        have h5 := Blk.new w4 5 ((rowA .u8 (fun _ => 0) q 0).setIfInBounds s (.int .u8 (k : Int)))
        rw [hz4.out, ← hw54.out, show rowA .u8 (fun _ => 0) q 0 = rowA .u8 (fun _ => 0) q q by simp [rowA], rowA_upd] at h5
        refine ⟨by rw [term_len]; exact hqq.out, blk_bytes (n := q) h5 (term s k) (by rw [term_len]; exact hqq.out.symm) (by omega) (fun i hi => ?_), (fun e => by cases e), Nat.le_refl _⟩
        have := term_co s k i
        show Pl.co _ _ = _
        rw [this, Nat.zero_add]; rfl
      have hR5 := hidIt (hR4.out.below b45.out)
      have hrq5 := hidIt (hrq4.out.below b45.out)
      have hq5 := hidIt (hq4.out.below b45.out (by have := hz4.out; have := hsz.out; omega))
      have hb5 := hidIt (hb4.out.trans (b45.out.mono hb4.out.size))
      have hsz5 : Hid (w2.heap.size < w5.heap.size) := by have := b45.out.size; have := hz4.out; have := hsz.out; show _ < _; omega
      clear cT fT f1 f2 f3 hR hrq2 hq hb hsz hR4 hrq4 hq4 hb4 b45 hw54 hw5 hw4 hz4
      refine (refpmul_any _ _ q mq q cq (term s k) Q (term_lt kb) hQb.out (by have := hqb.out; omega) (by have := hMb.out; omega) w5 hTm.out hrq5.out).mono ?_
      rintro e w6 ⟨⟨a6, m6, c6, rfl, hr6⟩, hbel⟩
      have hr6' := hidIt hr6
      have hR6 := hidIt (hR5.out.below hbel)
      have hrq6 := hidIt (hrq5.out.below hbel)
      have hq6 := hidIt (hq5.out.below hbel hsz5.out)
      have hb6 := hidIt (hb5.out.trans (hbel.mono hb5.out.size))
      have hsz6 : Hid (w2.heap.size < w6.heap.size) := by have := hbel.size; have := hsz5.out; show _ < _; omega
      have m6b : m6 ≤ 1000 := by have := hr6.len; have := timesT_le (xs := term s k) (ys := Q) (Nat.le_of_eq (term_len s k)) (Nat.le_of_eq hQl.out); have := hqq.out; have := hqb.out; have := hMb.out; omega
      clear hr6 hbel hR5 hrq5 hq5 hb5 hsz5 hTm
      go_wp2_with (fail)
      refine (refaddB_any _ a6 m m6 c c6 R (timesT (term s k) Q) hRb.out (timesT_lt (term_lt kb)) (by have := hmn.out; omega) m6b w6 hR6.out hr6'.out).mono ?_
      rintro e w7 ⟨⟨a7, m7, c7, rfl, hr7, hba⟩, hbel⟩
      have hst := refdiv_step (xs := xs) (ys := Q) (rs := R) (Qf := Qf) (D := D) (s := s) hQb.out (by rw [hQl.out, hD.out]) hQn.out hRb.out hQf.out (by have := hR6.out.len; have := hs.out; have := hD.out; omega) hQ0.out hid.out
      rw [show Pl.co R (s + D) = u by rw [← ht.out]; exact hu.out, show Pl.co Q D = lq from hlq.out, hk.out] at hst
      have hst' := hidIt hst
      have hr7' := hidIt hr7
      have hba' := hidIt hba
      have hrq7 := hidIt (hrq6.out.below hbel)
      have hq7 := hidIt (hq6.out.below hbel hsz6.out)
      have hb7 := hidIt (hb6.out.trans (hbel.mono hb6.out.size))
      have hsz7 : Hid (w2.heap.size < w7.heap.size) := by have := hbel.size; have := hsz6.out; show _ < _; omega
      have hm7 : m7 < m := by have h9 := hst.1; rw [← hr7.len, ← hR6.out.len] at h9; exact h9
      clear hst hr7 hba hbel
      go_wp2_with (fail)
      go_roundw
      case rel =>
        refine ⟨_, a7, m7, c7, fun i => if i = s then k else Qf i, rfl, hr7'.out, co_trim_lt (plus_lt hRb.out (timesT_lt (term_lt kb))), Pl.trim_nf _, ?_, ?_, hq7.out, ?_, ?_, ?_, hst'.out.2, hrq7.out, hb7.out, hsz7.out⟩
        · have := hmn.out; show _ ≤ _; omega
        · intro _ x hx
          have := hba'.out x hx
          have := hsz6.out
          omega
        · intro i
          show (if i = s then k else Qf i) < 256
          split
          · exact kb
          · exact hQf.out i
        · intro j hj
          have h9 := hst'.out.1
          have h8 := hR6.out.len
          have h7 := hs.out
          have h6 := hQl.out
          show (if j = s then k else Qf j) = 0
          rw [if_neg (by omega)]
          exact hQ0.out j (by omega)
        · intro j hj
          show (if j = s then k else Qf j) = 0
          rw [if_neg (by have := hsL.out; omega)]
          exact hQL.out j hj
      case measure => exact hm7
    · have t1 : (m : Int) < (mq : Int) := by omega
      have hlL : Hid (L = (Pl.fn Qf L).length) := (Pl.fn_len _ _).symm
      have hrd : Hid (Rd wr (some ⟨w2.heap.size, 0, none⟩) L L (Pl.fn Qf L)) := ⟨(Pl.fn_len _ _).symm, blk_bytes (n := L) hq.out _ (Pl.fn_len _ _) (by omega) (fun i hi => by rw [fn_getD _ _ _ hi, Nat.zero_add]), (fun e => by cases e), Nat.le_refl _⟩
      have hdv : Hid (DivOk xs ys (Pl.trim (Pl.fn Qf L)) R) := by
        refine divOk_eq y2.out hp1.out (co_trim_lt (fn_lt hQf.out L)) hRb.out (Pl.trim_nf _) hRn.out (by rw [← hM.out, ← hR.out.len]; omega) (fun j => ?_)
        rw [hid.out j]
        congr 1
        exact cv_congr (fun i => by rw [hQ.out, Pl.trim_co]) (fun i => by rw [Pl.trim_co, co_fn hQL.out]) j
      go_wp2_with (fail)
      refine (reftrim_any _ L L (Pl.fn Qf L) (fn_lt hQf.out L) (by have := hL.out; omega) _ hrd.out).mono ?_
      rintro e w6 ⟨⟨a6, m6, c6, rfl, hr6⟩, hbel⟩
      have hr6' := hidIt hr6
      have hR6 := hidIt (hR.out.below hbel)
      have hb6 := hidIt (hb.out.trans (hbel.mono hb.out.size))
      clear hr6 hbel
      go_wp2
      go_ret2
      exact ⟨⟨_, _, _, _, _, _, _, _, rfl, hr6'.out, hR6.out, hdv.out⟩, hb6.out⟩
end Go.Proofs.Ytcnjcfmgkkghjaa
