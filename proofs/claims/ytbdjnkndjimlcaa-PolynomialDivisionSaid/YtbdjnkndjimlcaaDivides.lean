import Derived.Test.YtbdjnkndjimlcaaLawA
namespace Go.Proofs.Ytbdjnkndjimlcaa
open Go.RowKit
theorem many2_any (w : World) (a0 a1 : Option Addr) (l0 c0 l1 c1 : Nat) (t : TypeId) (v : Bool) (hv : decide (30 < l0 ∨ 30 < l1) = v) :
    Calls Try.prog 41 #[.slice (some ⟨w.heap.size, 0, none⟩) 2 2] (w.alloc (.cells #[.slice a0 l0 c0, .slice a1 l1 c1] t)) fun e w' => e = .returned (.bool v) ∧ Below w.heap.size w w' := by
  refine (many_any w.heap.size 2 2 (fun j => if j = 0 then a0 else a1) (fun j => if j = 0 then l0 else l1) (fun j => if j = 0 then c0 else c1) v ?_ ?_ (by decide) _ ?_).mono fun _ _ ⟨h, k⟩ => ⟨h, k ▸ (Below.refl _ w).alloc (Nat.le_refl _) _⟩
  · intro h
    rw [h] at hv
    rcases of_decide_eq_true hv with h1 | h1
    · exact ⟨0, by decide, h1⟩
    · exact ⟨1, by decide, h1⟩
  · intro h j hj
    rw [h] at hv
    have h1 := of_decide_eq_false hv
    show (if j = 0 then l0 else l1) ≤ 30
    split <;> omega
  · intro j hj
    rw [(Blk.new w t _).cell]
    match j, hj with
    | 0, _ => rfl
    | 1, _ => rfl
theorem row_lt {w : World} {a : Option Addr} {len cap : Nat} {bs : List Nat} (h : RowB w a len cap bs) : ∀ i, bs.getD i 0 < 256 := lt_all h.lt
theorem divides_eq {ps qs D R : List Nat} (hq : ∀ i, qs.getD i 0 < 256) (h : DivOk ps qs D R) : Pl.trim (plus (timesT D qs) R) = Pl.trim ps := by
  obtain ⟨h1, h2, h3, h4, h5, h6, h7⟩ := h
  refine Pl.trim_congr (fun j => ?_)
  rw [plus_co, timesT_co, h7 j, Pl.cv_comm h1 hq D.length qs.length (fun i hi => Pl.co_out hi) (fun i hi => Pl.co_out hi), Nat.xor_comm]
set_option maxRecDepth 100000 in
set_option maxHeartbeats 1000000 in
theorem divides_walk (a0 a1 : Option Addr) (len0 cap0 len1 cap1 : Nat) (ps qs : List Nat) (w : World) (r0 : RowB w a0 len0 cap0 ps) (r1 : RowB w a1 len1 cap1 qs) :
    Calls Try.prog 8 #[.slice a0 len0 cap0, .slice a1 len1 cap1] w fun e w' => e = .returned (.bool true) ∧ Below w.heap.size w w' := by
  have hp := hidIt (row_lt r0)
  have hq := hidIt (row_lt r1)
  have n0 := hidIt r0.len
  have n1 := hidIt r1.len
  have b0 := hidIt r0.bytes
  have b1 := hidIt r1.bytes
  clear r0 r1
  obtain ⟨dq, hdq⟩ : ∃ d, Hid (Pl.d1 qs = d) := ⟨_, rfl⟩
  go_enter Try.func8, Try.ntmps8
  go_wp2_with (fail)
  refine (awake6_any _).mono ?_
  rintro e w1 ⟨rfl, be1⟩
  replace be1 := hidIt be1
  go_wp2_with (fail)
  by_cases hmany : 30 < len0 ∨ 30 < len1
  · refine (many2_any w1 a0 a1 len0 cap0 len1 cap1 _ true (decide_eq_true hmany)).mono ?_
    rintro e w2 ⟨rfl, be2⟩
    replace be2 := hidIt (then_below be1.out be2)
    clear hmany
    go_wp2_with (fail)
    go_ret
    exact ⟨rfl, be2.out⟩
  · refine (many2_any w1 a0 a1 len0 cap0 len1 cap1 _ false (decide_eq_false hmany)).mono ?_
    rintro e w2 ⟨rfl, be2⟩
    replace be2 := hidIt (then_below be1.out be2)
    have s0 : len0 ≤ 30 := by omega
    have s1 : len1 ≤ 30 := by omega
    clear hmany
    go_wp2_with (fail)
    refine (degree_any _ _ _ qs n1.out hq.out (by omega) _ (b1.out.below be2.out)).mono ?_
    rintro e w3 ⟨rfl, rfl⟩
    rw [hdq.out]
    by_cases hz : dq = 0
    · subst hz
      rw [show ((0 : Nat) : Int) - 1 = -1 from rfl]
      go_wp2_with (fail)
      go_ret
      exact ⟨rfl, be2.out⟩
    · obtain ⟨dm, hdm⟩ : ∃ dm, Hid (dq = dm + 1) := ⟨dq - 1, by show _ = _; omega⟩
      have f1 : (dq : Int) - 1 = (dm : Int) := by have := hdm.out; omega
      rw [f1]
      go_wp2_with (fail)
      refine (divmod_any a0 a1 len0 len1 cap0 cap1 ps qs n0.out n1.out hp.out hq.out (by omega) (by omega) (by rw [hdq.out]; omega) _ (b0.out.below be2.out) (b1.out.below be2.out)).mono ?_
      rintro e w3 ⟨⟨v, u, D, R, rfl, m1, m2, hdv⟩, be3⟩
      obtain ⟨ld, hld⟩ : ∃ l, Hid (D.length = l) := ⟨_, rfl⟩
      obtain ⟨lr, hlr⟩ : ∃ l, Hid (R.length = l) := ⟨_, rfl⟩
      obtain ⟨g1, rfl, _, _, y1⟩ := m1.at ld hld.out
      obtain ⟨g2, rfl, _, _, y2⟩ := m2.at lr hlr.out
      have hdv' := hidIt hdv
      have y1' := hidIt y1
      have y2' := hidIt y2
      have be4 := hidIt (then_below be2.out be3)
      have hDl : ld ≤ 31 := by have := hdv.2.2.2.2.2.1; have := hld.out; have := Pl.d1_le ps; have := n0.out; omega
      have hRl : Hid (lr < dq) := by have := hdv.2.2.2.2.1; have := hlr.out; have := hdq.out; show _ < _; omega
      have hRs : lr ≤ 30 := by have := hRl.out; have := hdq.out; have := Pl.d1_le qs; have := n1.out; omega
      clear m1 m2 hdv y1 y2 be3 be2 be1
      go_wp2_with (fail)
      refine (lawmul_any _ a1 ld len1 _ cap1 D qs hld.out.symm n1.out hdv'.out.1 hq.out (by omega) (by omega) _ y1'.out (b1.out.below be4.out)).mono ?_
      rintro e w4 ⟨⟨a4, m4, c4, rfl, hm4, y4⟩, be5⟩
      have hm4' := hidIt hm4
      have y4' := hidIt y4
      have y2'' := hidIt (y2'.out.below be5)
      have be6 := hidIt (then_below be4.out be5)
      have s4 : m4 ≤ 61 := by have := timesT_len D qs; have := Pl.d1_le D; have := Pl.d1_le qs; have := hld.out; have := n1.out; omega
      clear hm4 y4 be5 y2' y1' be4
      go_wp2_with (fail)
      refine (add2_any a4 _ m4 lr c4 _ (timesT D qs) R hm4'.out hlr.out.symm (timesT_lt hdv'.out.1) hdv'.out.2.1 (by omega) (by omega) _ y4'.out y2''.out).mono ?_
      rintro e w5 ⟨⟨v5, rfl, m5⟩, be7⟩
      obtain ⟨l5, hl5⟩ : ∃ l, Hid ((Pl.trim (plus (timesT D qs) R)).length = l) := ⟨_, rfl⟩
      obtain ⟨g5, rfl, _, _, y5⟩ := m5.at l5 hl5.out
      have y5' := hidIt y5
      have y2' := hidIt (y2''.out.below be7)
      have be8 := hidIt (then_below be6.out be7)
      clear m5 y5 be7 y2'' be6 y4'
      go_wp2_with (fail)
      refine (trim2_any a0 len0 cap0 ps n0.out hp.out (by omega) _ (b0.out.below be8.out)).mono ?_
      rintro e w6 ⟨⟨v6, rfl, m6⟩, be9⟩
      obtain ⟨l6, hl6⟩ : ∃ l, Hid ((Pl.trim ps).length = l) := ⟨_, rfl⟩
      obtain ⟨g6, rfl, _, _, y6⟩ := m6.at l6 hl6.out
      have y6' := hidIt y6
      have y5'' := hidIt (y5'.out.below be9)
      have y2'' := hidIt (y2'.out.below be9)
      have be10 := hidIt (then_below be8.out be9)
      clear m6 y6 be9 y5' y2' be8
      go_wp2_with (fail)
      refine (same6b _ _ l5 l6 _ _ (Pl.trim (plus (timesT D qs) R)) (Pl.trim ps) true hl5.out.symm hl6.out.symm (co_trim_lt (plus_lt (timesT_lt hdv'.out.1) hdv'.out.2.1)) (co_trim_lt hp.out) (decide_eq_true (divides_eq hq.out hdv'.out)) _ y5''.out y6'.out).mono ?_
      rintro e w7 ⟨rfl, be11⟩
      have y2' := hidIt (y2''.out.below be11)
      have be12 := hidIt (then_below be10.out be11)
      clear be11 y2'' be10 y5'' y6'
      go_wp2_with (fail)
      refine (degree_any _ lr _ R hlr.out.symm hdv'.out.2.1 (by omega) _ y2'.out).mono ?_
      rintro e w8 ⟨rfl, rfl⟩
      rw [show Pl.d1 R = lr from hdv'.out.2.2.2.1.trans hlr.out]
      go_wp2_with (fail)
      refine (degree_any _ _ _ qs n1.out hq.out (by omega) _ (b1.out.below be12.out)).mono ?_
      rintro e w8 ⟨rfl, rfl⟩
      rw [hdq.out, f1]
      have f2 : (lr : Int) - 1 < (dm : Int) := by have := hRl.out; have := hdm.out; omega
      go_wp2_with (fail)
      go_ret
      exact ⟨rfl, be12.out⟩
end Go.Proofs.Ytbdjnkndjimlcaa
