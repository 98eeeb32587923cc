import Derived.Test.YtcnjcfmgkkghjaaPo5
import Derived.OwnWalk
namespace Go.Proofs.Ytcnjcfmgkkghjaa
open Go.RowKit
/-- what a division gives -/
def DivOk (xs ys qs rs : List Nat) : Prop :=
  (∀ i, qs.getD i 0 < 256) ∧ (∀ i, rs.getD i 0 < 256) ∧ Pl.Nf qs ∧ Pl.Nf rs ∧ rs.length < Pl.d1 ys ∧ qs.length = Pl.d1 xs + 1 - Pl.d1 ys ∧ ∀ j, Pl.co xs j = Pl.co rs j ^^^ Pl.cv (Pl.co ys) (Pl.co qs) j
theorem co_fn {f : Nat → Nat} {n : Nat} (h : ∀ j, n ≤ j → f j = 0) (j : Nat) : Pl.co (Pl.fn f n) j = f j := by
  rw [Pl.fn_co]
  split
  · rfl
  · exact (h j (by omega)).symm
theorem divOk_of {xs ys : List Nat} {N D L : Nat} {Qf Rf : Nat → Nat} (hN : N = Pl.d1 xs) (hM : D + 1 = Pl.d1 ys) (hL : L = N - D) (hd : Pl.Div (Pl.co (Pl.trim xs)) (Pl.co (Pl.trim ys)) D 0 Qf Rf) (hQ0 : ∀ j, L ≤ j → Qf j = 0) (hR0 : ∀ j, N ≤ j → Rf j = 0) : DivOk xs ys (Pl.fn Qf L) (Pl.trim (Pl.fn Rf N)) := by
  obtain ⟨h1, h2, _, h4, h5⟩ := hd
  have h6 : ∀ j, Pl.co xs j = Rf j ^^^ Pl.cv (Pl.co ys) Qf j := fun j => by
    have := h5 j
    rw [Pl.trim_co] at this
    rw [this]
    congr 1
    exact Pl.S_congr (fun i _ => by rw [Pl.trim_co])
  refine ⟨fn_lt h1 L, co_trim_lt (fn_lt h2 N), ?_, Pl.trim_nf _, ?_, by rw [Pl.fn_len]; omega, ?_⟩
  · refine Pl.d1_unique _ _ (fun i hi => Pl.co_out hi) (fun h0 => ?_)
    rw [Pl.fn_len] at h0 ⊢
    rw [co_fn hQ0]
    intro hz
    have e1 := h6 (N - 1)
    rw [h4 (N - 1) (by omega), show N - 1 = D + (L - 1) by omega, Pl.cv_top (fun i hi => Pl.d1_zero ys i (by omega)) (fun k hk => hQ0 k (by omega)), hz, Gf.mul_zero] at e1
    have e2 := Pl.d1_top xs (by omega)
    rw [← hN, show N - 1 = D + (L - 1) by omega] at e2
    exact e2 e1
  · rw [Pl.trim_len]
    rcases Nat.lt_or_ge (Pl.d1 (Pl.fn Rf N)) (D + 1) with h | h
    · omega
    · exfalso
      have e2 := Pl.d1_top (Pl.fn Rf N) (by omega)
      rw [co_fn hR0] at e2
      exact e2 (h4 _ (by omega))
  · intro j
    rw [Pl.trim_co, co_fn hR0, h6 j]
    congr 1
    exact Pl.S_congr (fun i _ => by rw [co_fn hQ0])
set_option maxRecDepth 100000 in
theorem divmod_any (a1 a2 : Option Addr) (n1 n2 c1 c2 : Nat) (xs ys : List Nat) (hn : n1 = xs.length) (hm : n2 = ys.length) (hx : ∀ i, xs.getD i 0 < 256) (hy : ∀ i, ys.getD i 0 < 256) (hb1 : n1 ≤ 140737488355328) (hb2 : n2 ≤ 140737488355328) (h02 : 0 < Pl.d1 ys) (w : World) (h1 : Bytes w a1 xs) (h2 : Bytes w a2 ys) :
    Calls Try.prog 30 #[.slice a1 n1 c1, .slice a2 n2 c2] w fun e w' => (∃ v u qs rs, e = .returned (.tuple #[v, u, .int .i64 0]) ∧ Made w w' v qs ∧ Made w w' u rs ∧ DivOk xs ys qs rs) ∧ Below w.heap.size w w' := by
  obtain ⟨P, hP⟩ : ∃ P, Hid (P = Pl.trim xs) := ⟨_, rfl⟩
  obtain ⟨Q, hQ⟩ : ∃ Q, Hid (Q = Pl.trim ys) := ⟨_, rfl⟩
  obtain ⟨N, hN⟩ : ∃ N, Hid (N = Pl.d1 xs) := ⟨_, rfl⟩
  obtain ⟨M, hM⟩ : ∃ M, Hid (M = Pl.d1 ys) := ⟨_, rfl⟩
  obtain ⟨D, hD⟩ : ∃ D, Hid (M = D + 1) := ⟨M - 1, by show _ = _; rw [hM.out]; omega⟩
  obtain ⟨L, hL⟩ : ∃ L, Hid (L = N - D) := ⟨_, rfl⟩
  have hPl : Hid (P.length = N) := by show _ = _; rw [hP.out, Pl.trim_len, hN.out]
  have hQl : Hid (Q.length = M) := by show _ = _; rw [hQ.out, Pl.trim_len, hM.out]
  have hQd : Hid (Pl.d1 Q = M) := by show _ = _; rw [hQ.out, Pl.d1_trim, hM.out]
  have hPb : Hid (∀ i, P.getD i 0 < 256) := fun i => by rw [hP.out]; exact co_trim_lt hx i
  have hQb : Hid (∀ i, Q.getD i 0 < 256) := fun i => by rw [hQ.out]; exact co_trim_lt hy i
  have hNb : Hid (N ≤ 140737488355328) := by show _ ≤ _; have := Pl.d1_le xs; rw [hN.out]; omega
  have hMb : Hid (M ≤ 140737488355328) := by show _ ≤ _; have := Pl.d1_le ys; rw [hM.out]; omega
  obtain ⟨lq, hlq⟩ : ∃ lq, Hid (Q.getD D 0 = lq) := ⟨_, rfl⟩
  have hlb : lq < 256 := by rw [← hlq.out]; exact hQb.out D
  have hl0 : lq ≠ 0 := by
    rw [← hlq.out]
    have := Pl.d1_top Q (by rw [hQd.out, hD.out]; omega)
    rw [hQd.out, hD.out] at this
    exact this
  have r1 : (M : Int) - 1 = (D : Int) := by have := hD.out; omega
  have r2 : (D : Int) < (M : Int) := by omega
  have r3 : D < 140737488355328 := by have := hMb.out; have := hD.out; omega
  have r4 : N ≤ 140737488355328 := hNb.out
  have hmk := makeLen L (by have := hL.out; have := hNb.out; omega)
  have n1' := hidIt hn
  have n2' := hidIt hm
  have x2 := hidIt hx
  have y2 := hidIt hy
  have i1 := hidIt h1
  have i2 := hidIt h2
  clear hn hm hx hy h1 h2 h02
  go_enter Try.func30, Try.ntmps30
  go_wp2_with (fail)
  refine (trim2_any _ _ _ ys n2'.out y2.out hb2 _ i2.out).mono ?_
  rintro e w1 ⟨⟨v1, rfl, hm1⟩, be1⟩
  obtain ⟨g1, rfl, lo1, hi1, by1⟩ := hm1.at M (by rw [Pl.trim_len, hM.out])
  rw [← hQ.out] at by1
  have lo1' := hidIt lo1
  have hi1' := hidIt hi1
  have by1' := hidIt by1
  have be1' := hidIt be1
  obtain ⟨b, off, hbo, e1⟩ := by1 D (by rw [hQl.out, hD.out]; omega)
  cases hbo
  rw [hlq.out, Nat.zero_add] at e1
  clear hm1 lo1 hi1 by1 be1
  go_wp2_with (fail)
  refine (degree_any _ _ _ Q hQl.out.symm hQb.out hMb.out _ by1'.out).mono ?_
  rintro e w3 ⟨rfl, rfl⟩
  rw [hQd.out, r1]
  go_wp2_with (fail)
  refine (inv_pos lq hlb hl0 _).mono ?_
  rintro e w3 ⟨rfl, rfl⟩
  go_wp2_with (fail)
  refine (trim2_any _ _ _ xs n1'.out x2.out hb1 _ (i1.out.below be1'.out)).mono ?_
  rintro e w2 ⟨⟨v2, rfl, hm2⟩, be2⟩
  obtain ⟨g2, e2, lo2, br2⟩ := hm2
  rw [Pl.trim_len, ← hN.out] at e2
  rw [Pl.trim_len, ← hN.out, ← hP.out] at br2
  subst e2
  have lo2' := hidIt lo2
  have br2' := hidIt br2
  have by1' := hidIt (by1'.out.below be2)
  have hi1' : Hid (g1 < g2) := by have := hi1'.out; show _ < _; omega
  have be2' := hidIt (be1'.out.trans (be2.mono be1'.out.size))
  clear e1 be1' be2 lo2 br2
  obtain ⟨w0, hw0⟩ : ∃ w0, Hid (w0 = w2.alloc (.cells (rowA .u8 (fun _ => 0) L 0) 5)) := ⟨_, rfl⟩
  have hs0 : Hid (w0.heap.size = w2.heap.size + 1) := by show _ = _; rw [hw0.out]; simp
  have hB0 : Hid (Blk w0 w2.heap.size 5 (rowA .u8 (fun _ => 0) L L)) := by
    show Blk _ _ _ _
    have e : rowA .u8 (fun _ => 0) L L = rowA .u8 (fun _ => 0) L 0 := by simp [rowA]
    rw [e, hw0.out]
    exact Blk.new w2 5 _
  have hb0 : Hid (Below w2.heap.size w2 w0) := by show Below _ _ _; rw [hw0.out]; exact (Below.refl _ w2).alloc (Nat.le_refl _) _
  have hg2 : Hid (g2 < w2.heap.size) := br2'.out.lt
  have hbQ : Hid (Bytes w0 (some ⟨g1, 0, none⟩) Q) := by1'.out.below hb0.out
  have hbR : Hid (Blk w0 g2 5 (rowA .u8 (Pl.co P) N N)) := br2'.out.below hb0.out hg2.out
  have hlo : Hid (w.heap.size ≤ g2) := by have := lo2'.out; have := lo1'.out; have := hi1'.out; show _ ≤ _; omega
  have hbe : Hid (Below w.heap.size w w0) := be2'.out.trans (hb0.out.mono be2'.out.size)
  clear lo1' lo2' br2' by1' be2'
  by_cases hND : N < D
  · obtain rfl : L = 0 := by rw [hL.out]; omega
    have hmk0 : ∀ W : World, (Instr.makeSlice 22 (.int .i64 0) (.int .i64 0)).run Try.prog W = .ok (.slice (some ⟨W.heap.size, 0, none⟩) 0 0) (W.alloc (.cells (rowA .u8 (fun _ => 0) 0 0) 5)) := makeLen 0 (by omega)
    have q1 : (N : Int) - (D : Int) < 0 := by omega
    have hND' := hidIt hND
    clear hmk hND
    go_wp2_with (fail)
    rw [← hw0.out]
    go_loopw [12] (fun i wr => i = .int .i64 (-1) ∧ w0 = wr) (fun _ _ => 0)
    case atStart => exact ⟨rfl, rfl⟩
    case round =>
      obtain ⟨rfl, rfl⟩ := hrel
      go_wp2_with (fail)
      refine (trim2_any _ _ _ P hPl.out.symm hPb.out hNb.out _ (blk_bytes (n := N) hbR.out P hPl.out (by omega) (fun i _ => by rw [Nat.zero_add]))).mono ?_
      rintro e w5 ⟨⟨v5, rfl, hm5⟩, be5⟩
      replace hm5 := hidIt hm5
      replace be5 := hidIt be5
      go_wp2
      have hgq : Hid (Blk w5 w2.heap.size 5 (rowA .u8 (fun _ => 0) 0 0)) := hB0.out.below be5.out hB0.out.lt
      go_ret3
      refine ⟨⟨_, _, [], Pl.trim P, rfl, ⟨w2.heap.size, rfl, by have := hlo.out; have := hg2.out; omega, hgq.out⟩, hm5.out.mono hbe.out.size, ?_⟩, hbe.out.trans (be5.out.mono hbe.out.size)⟩
      have hP0 : ∀ j, N ≤ j → Pl.co P j = 0 := fun j hj => Pl.co_out (by rw [hPl.out]; exact hj)
      rw [show Pl.trim P = Pl.trim (Pl.fn (Pl.co P) N) from Pl.trim_congr (fun j => (co_fn hP0 j).symm)]
      have hd2 : Pl.Div (Pl.co P) (Pl.co Q) D 0 (fun _ => 0) (Pl.co P) := Pl.Div.start hPb.out (fun j hj => hP0 j (by have := hND'.out; omega))
      rw [hP.out, hQ.out] at hd2
      have hfin := divOk_of (xs := xs) (ys := ys) hN.out (by rw [← hM.out, hD.out]) hL.out hd2 (fun _ _ => rfl) (fun j hj => by rw [← hP.out]; exact hP0 j hj)
      rw [hP.out]
      exact hfin
  · have q1 : (N : Int) - (D : Int) = (L : Int) := by rw [hL.out]; omega
    have hLv := hidIt (show L + D = N by have := hL.out; omega)
    clear hND
    go_wp2_with (fail)
    rw [← hw0.out]
    go_loopw [12] (fun i wr => ∃ k : Nat, k ≤ L ∧ i = .int .i64 ((k : Int) - 1) ∧ ∃ Qf Rf, Hid (Pl.Div (Pl.co P) (Pl.co Q) D k Qf Rf) ∧ Hid (∀ j, L ≤ j → Qf j = 0) ∧ Hid (Blk wr w2.heap.size 5 (rowA .u8 Qf L L)) ∧ Hid (Blk wr g2 5 (rowA .u8 Rf N N)) ∧ Hid (Bytes wr (some ⟨g1, 0, none⟩) Q) ∧ Hid (Below w.heap.size w wr) ∧ Hid (w2.heap.size < wr.heap.size)) (fun i _ => (intOf i + 1).toNat)
    case atStart => exact ⟨L, Nat.le_refl _, rfl, fun _ => 0, Pl.co P, Pl.Div.start hPb.out (fun j hj => Pl.co_out (by have := hLv.out; have := hPl.out; omega)), fun _ _ => rfl, hB0.out, hbR.out, hbQ.out, hbe.out, by have := hs0.out; show _ < _; omega⟩
    case round =>
      obtain ⟨k, hk, rfl, Qf, Rf, hdv, hQ0, hq, hr, hbq, hbl, hsz⟩ := hrel
      cases k with
      | zero =>
        have hrl : Hid (N = (Pl.fn Rf N).length) := (Pl.fn_len _ _).symm
        have hrb : Hid (∀ i, (Pl.fn Rf N).getD i 0 < 256) := fn_lt hdv.out.2.1 N
        go_wp2_with (fail)
        refine (trim2_any _ _ _ (Pl.fn Rf N) hrl.out hrb.out hNb.out _ (blk_bytes (n := N) hr.out (Pl.fn Rf N) (Pl.fn_len _ _) (by omega) (fun i hi => by rw [fn_getD _ _ _ hi, Nat.zero_add]))).mono ?_
        rintro e w5 ⟨⟨v5, rfl, hm5⟩, be5⟩
        replace hm5 := hidIt hm5
        replace be5 := hidIt be5
        go_wp2
        have hgq : Hid (Blk w5 w2.heap.size 5 (rowA .u8 Qf L L)) := hq.out.below be5.out hsz.out
        go_ret3
        refine ⟨⟨_, _, Pl.fn Qf L, Pl.trim (Pl.fn Rf N), rfl, ⟨w2.heap.size, by rw [Pl.fn_len]; rfl, by have := hlo.out; have := hg2.out; omega, ?_⟩, hm5.out.mono hbl.out.size, ?_⟩, hbl.out.trans (be5.out.mono hbl.out.size)⟩
        · rw [Pl.fn_len, rowA_congr (g := Qf) (fun i hi => by rw [Pl.fn_co, if_pos hi])]
          exact hgq.out
        · have hd2 := hdv.out
          rw [hP.out, hQ.out] at hd2
          exact divOk_of hN.out (by rw [← hM.out, hD.out]) hL.out hd2 hQ0.out (fun j hj => hd2.2.2.2.1 j (by have := hLv.out; omega))
      | succ m =>
        have e3 : ((m + 1 : Nat) : Int) - 1 = (m : Int) := by omega
        have hLm := hidIt (show m + D < N by have := hLv.out; omega)
        obtain ⟨s, hs⟩ : ∃ s, Hid (m + D = s) := ⟨_, rfl⟩
        have e4 : (m : Int) + (D : Int) = (s : Int) := by have := hs.out; omega
        have e5 : (s : Int) < (N : Int) := by have := hLm.out; have := hs.out; omega
        have e6 : (m : Int) < (L : Int) := by omega
        have hrb := hidIt hdv.out.2.1
        obtain ⟨y, hy⟩ : ∃ y, Hid (Rf (m + D) = y) := ⟨_, rfl⟩
        have yb : y < 256 := by rw [← hy.out]; exact hrb.out _
        have ib : Gf.inv lq < 256 := Gf.pw_lt _ 254
        have c1 : wr.cell? ⟨g2, s, none⟩ = some (.int .u8 (y : Int)) := by rw [← hs.out, hr.out.cell, rowA_all _ _ _ _ hLm.out, hy.out]
        have c2 : wr.cell? ⟨w2.heap.size, m, none⟩ = some (.int .u8 (Qf m : Int)) := by rw [hq.out.cell, rowA_all _ _ _ _ (by omega)]
        have c3 := hq.out.frozen m
        rw [e3]
        go_wp2_with (fail)
        refine (mul_any y (Gf.inv lq) yb ib _).mono ?_
        rintro e w4 ⟨rfl, rfl⟩
        go_wp2_with (fail)
        obtain ⟨c, hc⟩ : ∃ c, Hid (Gf.mul y (Gf.inv lq) = c) := ⟨_, rfl⟩
        have cb : c < 256 := by rw [← hc.out]; exact Gf.mul_lt _ yb
        rw [hc.out]
        obtain ⟨w5, hw5⟩ : ∃ w5, Hid (w5 = wr.setCell ⟨w2.heap.size, m, none⟩ (.int .u8 (c : Int))) := ⟨_, rfl⟩
        rw [← hw5.out]
        have hq5 : Hid (Blk w5 w2.heap.size 5 (rowA .u8 (fun i => if i = m then c else Qf i) L L)) := by
          have h5 := hq.out.set_ m (.int .u8 (c : Int))
          rw [rowA_upd, ← hw5.out] at h5
          exact h5
        have hr5 : Hid (Blk w5 g2 5 (rowA .u8 Rf N N)) := by
          have h5 := hr.out.far (p := ⟨w2.heap.size, m, none⟩) (by have := hg2.out; simp; omega) (.int .u8 (c : Int))
          rw [← hw5.out] at h5
          exact h5
        have hz5 : Hid (wr.heap.size = w5.heap.size) := by show _ = _; rw [hw5.out]; simp [World.setCell]
        have hbq5 : Hid (Bytes w5 (some ⟨g1, 0, none⟩) Q) := hbq.out.blocks (fun x e => by cases e; rw [hw5.out]; exact Below.heap_setCell _ _ _ _ (by have := hg2.out; have := hi1'.out; simp; omega))
        have hbl5 : Hid (Below w.heap.size w w5) := by show Below _ _ _; rw [hw5.out]; exact hbl.out.setCell (by have := hlo.out; have := hg2.out; simp; omega) _
        have d1 : w5.cell? ⟨w2.heap.size, m, none⟩ = some (.int .u8 (c : Int)) := by rw [hq5.out.cell, rowA_all _ _ _ _ (by omega), if_pos rfl]
        have s1 := fun W => sliceTail g2 0 N N m (by have := hLm.out; omega) (by have := hLm.out; omega) W
        have hfit : Hid (M ≤ N - m ∧ 0 + m + (N - m) ≤ N) := by have := hLm.out; have := hD.out; show _ ∧ _; omega
        clear c1 c2 c3
        go_still_tail 8, (by kernel_rfl)
        change wpList _ _ _ _ _ w5.drew
        go_wp2_with (fail)
        refine (addm_any g2 m (N - m) (N - m) N Rf 5 (some ⟨g1, 0, none⟩) M _ c Q hrb.out hQl.out.symm hfit.out.1 (Nat.le_refl _) (by have := hfit.out.2; omega) hQb.out hMb.out cb w5.drew hr5.out hbq5.out).mono ?_
        rintro e w6 ⟨rfl, hr6, hg6⟩
        replace hr6 := hidIt hr6
        replace hg6 : Hid (w5.grownBy w6 (some g2)) := ⟨hg6.os, hg6.tape, hg6.output, hg6.size, hg6.block⟩
        go_wp2_with (fail)
        go_roundw
        case rel =>
          have hst := Pl.Div.step (q := Pl.co Q) hQb.out (by show Q.getD D 0 ≠ 0; rw [hlq.out]; exact hl0) (fun j hj => Pl.co_out (by have := hQl.out; have := hD.out; omega)) hdv.out
          rw [show Pl.co Q D = lq from hlq.out, hy.out, hc.out] at hst
          refine ⟨m, by omega, rfl, _, _, hst, fun j hj => by show Qf j ^^^ Pl.dl m c j = 0; unfold Pl.dl; rw [hQ0.out j hj, if_neg (by omega)]; rfl, ?_, ?_, ?_, ?_, ?_⟩
          · show Blk _ _ _ _
            have h6 : Blk w6 w2.heap.size 5 (rowA .u8 (fun i => if i = m then c else Qf i) L L) := hq5.out.grown hg6.out (fun e => by have := hg2.out; cases e; omega)
            rw [rowA_congr (g := fun i => if i = m then c else Qf i) (fun i _ => ?_)]
            · exact h6
            · show Qf i ^^^ Pl.dl m c i = _
              unfold Pl.dl
              by_cases hi : i = m
              · rw [if_pos hi, if_pos hi, hdv.out.2.2.1 i (by omega)]; simp
              · rw [if_neg hi, if_neg hi]; simp
          · show Blk _ _ _ _
            rw [rowA_congr (fun i _ => ?_)]
            · exact hr6.out
            · by_cases h1 : m ≤ i
              · by_cases h2 : i < m + M
                · rw [if_pos h1, if_pos (by omega)]
                · rw [if_pos h1, if_neg (by omega), show Pl.co Q (i - m) = 0 from Pl.co_out (by rw [hQl.out]; omega), Gf.zero_mul]; simp
              · rw [if_neg h1, if_neg (by omega)]; simp
          · exact bytes_grown hbq5.out hg6.out (by have := hi1'.out; have := hg2.out; have := hsz.out; have := hz5.out; omega) (by have := hi1'.out; omega)
          · exact hbl5.out.trans ⟨hg6.out.os, hg6.out.tape, hg6.out.output, hg6.out.size, fun i hi => hg6.out.block i (by have := hbl5.out.size; omega) (fun e => by have := hlo.out; cases e; omega)⟩
          · have h7 := hg6.out.size; have := hsz.out; have := hz5.out; show _ < _; omega
        case measure => simp [intOf]
end Go.Proofs.Ytcnjcfmgkkghjaa
