import Derived.Test.YtcnjcfmgkkghjaaPo3
namespace Go.Proofs.Ytcnjcfmgkkghjaa
open Go.RowKit
theorem Made.at {w w' : World} {v : Value} {zs : List Nat} (h : Made w w' v zs) (n : Nat) (hn : zs.length = n) : ∃ g, v = .slice (some ⟨g, 0, none⟩) n n ∧ w.heap.size ≤ g ∧ g < w'.heap.size ∧ Bytes w' (some ⟨g, 0, none⟩) zs := by
  subst hn
  obtain ⟨g, h1, h2, h3⟩ := h
  exact ⟨g, h1, h2, h3.lt, blk_bytes (n := zs.length) h3 zs rfl (by omega) (fun i hi => by rw [Nat.zero_add])⟩
theorem bytes_grown {w w' : World} {r : Nat} {b : Nat} {xs : List Nat} (h : Bytes w (some ⟨b, 0, none⟩) xs) (hg : w.grownBy w' (some r)) (hb : b < w.heap.size) (hne : b ≠ r) : Bytes w' (some ⟨b, 0, none⟩) xs :=
  h.blocks (fun x e => by cases e; exact hg.block _ hb (fun e => by cases e; exact hne rfl))
theorem bytes_below {w w' : World} {b : Nat} {xs : List Nat} (h : Bytes w (some ⟨b, 0, none⟩) xs) (hg : Below w.heap.size w w') : Bytes w' (some ⟨b, 0, none⟩) xs := h.below hg
/-- the product of trimmed ones -/
def times (xs ys : List Nat) : List Nat := Pl.fn (Pl.cv (Pl.co (Pl.trim xs)) (Pl.co (Pl.trim ys))) (Pl.d1 xs + Pl.d1 ys - 1)
theorem co_trim_lt {xs : List Nat} (hx : ∀ i, xs.getD i 0 < 256) (i : Nat) : (Pl.trim xs).getD i 0 < 256 := by
  have := Pl.trim_co xs i
  show Pl.co _ _ < 256
  rw [this]; exact hx i
set_option maxRecDepth 100000 in
theorem mul2_any (a1 a2 : Option Addr) (n1 n2 c1 c2 : Nat) (xs ys : List Nat) (hn : n1 = xs.length) (hm : n2 = ys.length) (hx : ∀ i, xs.getD i 0 < 256) (hy : ∀ i, ys.getD i 0 < 256) (hb1 : n1 ≤ 140737488355328) (hb2 : n2 ≤ 140737488355328) (h01 : 0 < Pl.d1 xs) (h02 : 0 < Pl.d1 ys) (hdeg : Pl.d1 xs + Pl.d1 ys ≤ 1025) (w : World) (h1 : Bytes w a1 xs) (h2 : Bytes w a2 ys) :
    Calls Try.prog 33 #[.slice a1 n1 c1, .slice a2 n2 c2] w fun e w' => (∃ v, e = .returned (.tuple #[v, .int .i64 0]) ∧ Made w w' v (times xs ys)) ∧ Below w.heap.size w w' := by
  obtain ⟨P, hP⟩ : ∃ P, Hid (P = Pl.trim xs) := ⟨_, rfl⟩
  obtain ⟨Q, hQ⟩ : ∃ Q, Hid (Q = Pl.trim ys) := ⟨_, rfl⟩
  obtain ⟨N, hN⟩ : ∃ N, Hid (N = Pl.d1 xs) := ⟨_, rfl⟩
  obtain ⟨M, hM⟩ : ∃ M, Hid (M = Pl.d1 ys) := ⟨_, rfl⟩
  obtain ⟨L, hL⟩ : ∃ L, Hid (L = N + M - 1) := ⟨_, rfl⟩
  have hPl : Hid (P.length = N) := by show _ = _; rw [hP.out, Pl.trim_len, hN.out]
  have hQl : Hid (Q.length = M) := by show _ = _; rw [hQ.out, Pl.trim_len, hM.out]
  have hPd : Hid (Pl.d1 P = N) := by show _ = _; rw [hP.out, Pl.d1_trim, hN.out]
  have hQd : Hid (Pl.d1 Q = M) := by show _ = _; rw [hQ.out, Pl.d1_trim, hM.out]
  have hPb : Hid (∀ i, P.getD i 0 < 256) := fun i => by rw [hP.out]; exact co_trim_lt hx i
  have hQb : Hid (∀ i, Q.getD i 0 < 256) := fun i => by rw [hQ.out]; exact co_trim_lt hy i
  have hres : Hid (times xs ys = Pl.fn (Pl.cv (Pl.co P) (Pl.co Q)) L) := by show _ = _; unfold times; rw [hP.out, hQ.out, hL.out, hN.out, hM.out]
  have f1 : 0 < N := by rw [hN.out]; exact h01
  have f2 : 0 < M := by rw [hM.out]; exact h02
  have f3 : N + M ≤ 1025 := by rw [hN.out, hM.out]; exact hdeg
  have f4 := hidIt f3
  have hLv : L = N + M - 1 := hL.out
  have p0 : N ≤ 140737488355328 := by omega
  have p1 : M ≤ 140737488355328 := by omega
  have hmk := makeLen L (by omega)
  have q1 : ((N : Int) == 0) = false := by simp; omega
  have q2 : ((M : Int) == 0) = false := by simp; omega
  have q3 : (N : Int) - 1 + ((M : Int) - 1) = (N : Int) + M - 2 := by omega
  have q4 : (N : Int) + M - 2 + 1 = (L : Int) := by omega
  have hLe := hidIt hLv
  have n1' := hidIt hn
  have n2' := hidIt hm
  have x2 := hidIt hx
  have y2 := hidIt hy
  have i1 := hidIt h1
  have i2 := hidIt h2
  clear hn hm hx hy h1 h2 h01 h02 hdeg hLv
  go_enter Try.func33, Try.ntmps33
  go_wp2_with (fail)
  refine (trim2_any _ _ _ xs n1'.out x2.out hb1 _ i1.out).mono ?_
  rintro e w1 ⟨⟨v1, rfl, hm1⟩, be1⟩
  obtain ⟨g1, rfl, lo1, hi1, by1⟩ := hm1.at N (by rw [Pl.trim_len, hN.out])
  rw [← hP.out] at by1
  have lo1' := hidIt lo1
  have hi1' := hidIt hi1
  have by1' := hidIt by1
  have be1' := hidIt be1
  clear hm1 lo1 hi1 by1 be1
  go_wp2_with (fail)
  refine (trim2_any _ _ _ ys n2'.out y2.out hb2 _ (i2.out.below be1'.out)).mono ?_
  rintro e w2 ⟨⟨v2, rfl, hm2⟩, be2⟩
  obtain ⟨g2, rfl, lo2, hi2, by2⟩ := hm2.at M (by rw [Pl.trim_len, hM.out])
  rw [← hQ.out] at by2
  have lo2' := hidIt lo2
  have hi2' := hidIt hi2
  have by2' := hidIt by2
  have by1' := hidIt (by1'.out.below be2)
  have be2' := hidIt (be1'.out.trans (be2.mono be1'.out.size))
  have hi1' : Hid (g1 < w2.heap.size) := by have := be2.size; have := hi1'.out; show _ < _; omega
  clear hm2 lo2 hi2 by2 be2 be1'
  go_wp2_with (fail)
  refine (degree_any _ _ _ P hPl.out.symm hPb.out p0 _ by1'.out).mono ?_
  rintro e w3 ⟨rfl, rfl⟩
  rw [hPd.out]
  go_wp2_with (fail)
  refine (degree_any _ _ _ Q hQl.out.symm hQb.out p1 _ by2'.out).mono ?_
  rintro e w3 ⟨rfl, rfl⟩
  rw [hQd.out]
  go_wp2_with (fail)
  refine (degree_any _ _ _ P hPl.out.symm hPb.out p0 _ by1'.out).mono ?_
  rintro e w3 ⟨rfl, rfl⟩
  rw [hPd.out]
  go_wp2_with (fail)
  refine (degree_any _ _ _ Q hQl.out.symm hQb.out p1 _ by2'.out).mono ?_
  rintro e w3 ⟨rfl, rfl⟩
  rw [hQd.out]
  go_wp2_with (fail)
  obtain ⟨F, hF⟩ : ∃ F : Nat → Nat → Nat, Hid (F = Pl.mr (Pl.co P) (Pl.co Q)) := ⟨_, rfl⟩
  have hFb : Hid (∀ k i, F k i < 256) := fun k i => by rw [hF.out]; exact Pl.mr_lt (fun i => hPb.out i) k i
  obtain ⟨w0, hw0⟩ : ∃ w0, Hid (w0 = w2.alloc (.cells (rowA .u8 (fun _ => 0) L 0) 5)) := ⟨_, rfl⟩
  have hs0 : Hid (w0.heap.size = w2.heap.size + 1) := by show _ = _; rw [hw0.out]; simp
  have hB0 : Hid (Blk w0 w2.heap.size 5 (rowA .u8 (F 0) L L)) := by
    show Blk _ _ _ _
    have e : rowA .u8 (F 0) L L = rowA .u8 (fun _ => 0) L 0 := by rw [rowA_congr (g := fun _ => 0) (fun i _ => by rw [hF.out]; rfl)]; simp [rowA]
    rw [e, hw0.out]
    exact Blk.new w2 5 _
  have hb0 : Hid (Below w2.heap.size w2 w0) := by show Below _ _ _; rw [hw0.out]; exact (Below.refl _ w2).alloc (Nat.le_refl _) _
  have hbP : Hid (Bytes w0 (some ⟨g1, 0, none⟩) P) := by1'.out.below hb0.out
  have hbQ : Hid (Bytes w0 (some ⟨g2, 0, none⟩) Q) := by2'.out.below hb0.out
  rw [← hw0.out]
  go_loopw [38, 7, 8] (fun i _ _ wr => ∃ k : Nat, k ≤ N ∧ i = .int .i64 k ∧ Blk wr w2.heap.size 5 (rowA .u8 (F k) L L) ∧ w0.grownBy wr (some w2.heap.size)) (fun i _ _ _ => N - (intOf i).toNat)
  case atStart => exact ⟨0, by omega, rfl, hB0.out, grownBy_refl _ _⟩
  case round =>
    obtain ⟨k, hk, rfl, hrow, hgr⟩ := hrel
    have hrow' := hidIt hrow
    have hgr' := hidIt hgr
    clear hrow hgr
    by_cases hlt : k < N
    · obtain ⟨y, hy⟩ : ∃ y, Hid (P.getD k 0 = y) := ⟨_, rfl⟩
      have hPr : Hid (Bytes wr (some ⟨g1, 0, none⟩) P) := bytes_grown hbP.out hgr'.out (by have := hi1'.out; have := hs0.out; omega) (by have := hi1'.out; omega)
      have hQr : Hid (Bytes wr (some ⟨g2, 0, none⟩) Q) := bytes_grown hbQ.out hgr'.out (by have := hi2'.out; have := hs0.out; omega) (by have := hi2'.out; omega)
      obtain ⟨b, off, hbo, e1⟩ := hPr.out k (by rw [hPl.out]; exact hlt)
      cases hbo
      rw [hy.out, Nat.zero_add] at e1
      have s1 := fun W => sliceTail w2.heap.size 0 L L k (by have := hLe.out; omega) (by have := hLe.out; omega) W
      have t1 : (k : Int) < (N : Int) := by omega
      have t2 : k < L := by have := hLe.out; omega
      have yb : y < 256 := by rw [← hy.out]; exact hPb.out k
      have hfit : Hid (M ≤ L - k ∧ 0 + k + (L - k) ≤ L) := by have := hLe.out; show _ ∧ _; omega
      go_wp2_with (fail)
      refine (addm_any w2.heap.size _ _ _ L (F k) 5 _ M _ y Q (hFb.out k) hQl.out.symm hfit.out.1 (Nat.le_refl _) (by have := hfit.out.2; omega) hQb.out p1 yb _ hrow'.out hQr.out).mono ?_
      rintro e w4 ⟨rfl, hr4, hg4⟩
      replace hr4 := hidIt hr4
      replace hg4 := hidIt (grownBy_trans hgr'.out hg4)
      go_wp2_with (fail)
      go_roundw
      case rel =>
        refine ⟨k + 1, by omega, by go_num, ?_, hg4.out⟩
        rw [rowA_congr (f := F (k + 1)) (fun i _ => ?_)]
        · exact hr4.out
        · rw [hF.out, Pl.mr_succ, ← hF.out]
          by_cases h1 : k ≤ i
          · by_cases h2 : i < k + M
            · rw [if_pos h1, if_pos (by omega), ← hy.out]
              congr 1
              rw [Gf.mul_comm (hPb.out k) (hQb.out (i - k))]
            · rw [if_pos h1, if_neg (by omega), show Pl.co Q (i - k) = 0 from Pl.co_out (by rw [hQl.out]; omega), Gf.mul_zero]; simp
          · rw [if_neg h1, if_neg (by omega)]; simp
      case measure => simp [intOf]; omega
    · obtain rfl : k = N := by omega
      go_wp2
      go_ret2
      have hbw := below_at (Nat.le_refl _) hb0.out hgr'.out
      refine ⟨⟨_, rfl, w2.heap.size, by rw [hres.out, Pl.fn_len]; rfl, be2'.out.size, ?_⟩, be2'.out.trans (hbw.mono be2'.out.size)⟩
      rw [hres.out, Pl.fn_len, rowA_congr (g := F k) (fun i hi => ?_)]
      · exact hrow'.out
      · rw [Pl.fn_co, if_pos hi, hF.out, Pl.mr_all _ _ (fun i hi => Pl.co_out (by rw [hPl.out]; exact hi))]
end Go.Proofs.Ytcnjcfmgkkghjaa
