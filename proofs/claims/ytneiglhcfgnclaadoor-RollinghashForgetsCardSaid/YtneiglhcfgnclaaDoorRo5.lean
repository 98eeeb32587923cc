import Derived.Test.YtneiglhcfgnclaaDoorRo4
import Derived.Deep.RegionLaw
namespace Go.Proofs.YtneiglhcfgnclaaDoor
open Go.RowKit
theorem last_snoc_list (ys : List Nat) (b : Nat) (h : b < 256) (hy : ∀ y ∈ ys, y < 256) : ∀ y ∈ ys ++ [b], y < 256 := by
  intro y hm
  rw [List.mem_append, List.mem_singleton] at hm
  rcases hm with hm | rfl
  · exact hy y hm
  · exact h
/-- a region all of whose orders come to one end -/
def ToQ (A : Act) (W : World) : Exit → Act → World → Prop
  | .normal, a, w => a = A ∧ w = W
  | _, _, _ => False
theorem wp_to {P : Program} {c : Code} {Q : Exit → Act → World → Prop} {a : Act} {w : World} (A : Act) (W : World) (h1 : c.wp P (ToQ A W) a w) (h2 : Q .normal A W) : c.wp P Q a w :=
  Code.wp_mono (fun e _ _ h => by
    cases e with
    | normal => obtain ⟨rfl, rfl⟩ := h; exact h2
    | _ => exact h.elim) h1
set_option maxRecDepth 100000 in
set_option maxHeartbeats 2000000 in
theorem push_any (g : Nat) (T : Nat → Nat) (win : Nat) (ys : List Nat) (b : Nat) (hb : b < 256) (hbig : ys.length ≤ 1000000) (w : World) (h : Hid (RS w g T win ys)) :
    Calls Tryd.prog 19 #[.pointer (some ⟨g, 0, none⟩), .int .u8 b] w fun e w' => e = .returned (.tuple #[]) ∧ RS w' g T win (ys ++ [b]) ∧ w.grownBy w' (some g) := by
  obtain ⟨R, hR, hR2, hB⟩ := h.out.ex
  obtain ⟨n, hn⟩ : ∃ n, Hid (ys.length = n) := ⟨_, rfl⟩
  obtain ⟨sm, hsm⟩ : ∃ sm, Hid (Rh.hsh T (Rh.last win ys) = sm) := ⟨_, rfl⟩
  have lsm : sm < 18446744073709551616 := by rw [← hsm.out]; exact Rh.hsh_lt h.out.tl _
  rw [hn.out, hsm.out] at hB
  rw [hn.out] at hbig
  obtain ⟨nx, hnx⟩ : ∃ nx, Hid (n % 64 = nx) := ⟨_, rfl⟩
  rw [hnx.out] at hB
  have lnx : nx < 64 := by rw [← hnx.out]; exact Nat.mod_lt _ (by decide)
  obtain ⟨tb, htb⟩ : ∃ tb, Hid (T b = tb) := ⟨_, rfl⟩
  have ltb : tb < 18446744073709551616 := by rw [← htb.out]; exact h.out.tl _
  have l1 := h.out.w1
  have l2 := h.out.w2
  obtain ⟨s1, hs1, ls1⟩ : ∃ s1, Hid (Rh.rot sm 1 = s1) ∧ s1 < 18446744073709551616 := ⟨_, rfl, Rh.rot_lt lsm 1⟩
  obtain ⟨s2, hs2, es2, ls2⟩ : ∃ s2 : Nat, Hid (s1 ^^^ tb = s2) ∧ bits BinOp.xor IntKind.u64 (s1 : Int) (tb : Int) = (s2 : Int) ∧ s2 < 18446744073709551616 := ⟨_, rfl, u64_xor_nat _ _ ls1 ltb, Rh.xor_lt ls1 ltb⟩
  have c323 := hB.cell 323
  rw [rolC_sm] at c323
  have cb := hB.cell b
  rw [rolC_tab b hb, htb.out] at cb
  have f323 := hB.frozen 323
  have i1 : (b : Int) < 256 := by omega
  have hrot : Hid (∀ W, Calls Tryd.prog 28 #[.int .u64 sm, .int .i64 1] W fun e w' => e = .returned (.int .u64 s1) ∧ W = w') := fun W => by rw [← hs1.out]; exact rotl_any sm 1 1 rfl lsm (by decide) (by decide) W
  have hBh := hidIt hB
  clear hB
  by_cases hc : n < win
  · have hmin : Hid (min n win = n) := by show _ = _; omega
    rw [hmin.out] at hBh
    go_enter Tryd.func19, Tryd.ntmps19
    go_wp2_with (fail)
    apply wp_to
    case h1 =>
      go_region_law (first | (go_simp; go_at_call 28; refine (hrot.out (w.drewN 1)).mono ?_; rintro e w2 ⟨rfl, rfl⟩))
      all_goals exact ⟨rfl, rfl⟩
    clear c323 cb f323 hrot es2 i1
    obtain ⟨w1, hw1, B1⟩ : ∃ w1, Hid ((w.drewN 1).setCell ⟨g, 323, none⟩ (.int .u64 (s2 : Int)) = w1) ∧ Blk w1 g 52 (rolC T win R nx n s2).toArray := ⟨_, rfl, by rw [← rolC_putS]; exact (hBh.out.drewN 1).set_ _ _⟩
    rw [hw1.out]
    have G1 : Hid (w.grownBy w1 (some g)) := by rw [← hw1.out]; exact g_set (g_drewN (g_refl _ _) _)
    clear hBh
    have c322 := B1.cell 322
    rw [rolC_ct] at c322
    have c256 := B1.cell 256
    rw [rolC_win] at c256
    have f322 := B1.frozen 322
    have t1 : (n : Int) < (win : Int) := by omega
    go_wp2_with (fail)
    go_quiet (fail)
    go_wp2_with (fail)
    obtain ⟨w2, hw2, B2⟩ : ∃ w2, Hid ((w1.drewN nq).setCell ⟨g, 322, none⟩ (.int .i64 ((n : Int) + 1)) = w2) ∧ Blk w2 g 52 (rolC T win R nx (n + 1) s2).toArray := ⟨_, rfl, by rw [← rolC_putC (n + 1)]; exact (B1.drewN nq).set_ _ _⟩
    rw [hw2.out]
    have G2 : Hid (w.grownBy w2 (some g)) := by rw [← hw2.out]; exact g_set (g_drewN G1.out _)
    have hfin : Hid (∀ w', Blk w' g 52 (rolC T win (fun j => if j = nx then b else R j) ((n + 1) % 64) (n + 1) s2).toArray → RS w' g T win (ys ++ [b])) := fun w' hB' => by
      refine ⟨h.out.tl, h.out.w1, h.out.w2, last_snoc_list ys b hb h.out.yl, fun j => if j = nx then b else R j, ?_, ?_, ?_⟩
      · have := hR.push b
        rw [hn.out, hnx.out] at this
        exact this
      · intro i; show (if i = nx then b else R i) < 256; split
        · exact hb
        · exact hR2 i
      · rw [List.length_append, List.length_singleton, hn.out, show min (n + 1) win = n + 1 by omega, Rh.push_lt win ys b (by rw [hn.out]; exact hc), hsm.out, htb.out, ← Rh.rot_one, hs1.out, hs2.out]
        exact hB'
    clear hw2 B1 c322 c256 f322 t1 G1 hw1 hs1 hs2 htb ls1 ls2 lsm ltb hmin
    have c321 := B2.cell 321
    rw [rolC_nx] at c321
    have f257 := B2.frozen (257 + nx)
    have cR := B2.cell (257 + nx)
    rw [rolC_ring nx lnx] at cR
    have t2 : (nx : Int) < 64 := by omega
    have t3 : (0 : Int) ≤ (nx : Int) := by omega
    apply wp_to
    case h1 =>
      go_region
      all_goals exact ⟨rfl, rfl⟩
    clear cR f257 c321 t2 t3
    obtain ⟨w3, hw3, B3⟩ : ∃ w3, Hid ((w2.setCell ⟨g, 257 + nx, none⟩ (.int .u8 (b : Int))).drew = w3) ∧ Blk w3 g 52 (rolC T win (fun j => if j = nx then b else R j) nx (n + 1) s2).toArray := ⟨_, rfl, by rw [← rolC_putR nx b lnx]; exact (B2.set_ _ _).drewN 1⟩
    rw [hw3.out]
    have G3 : Hid (w.grownBy w3 (some g)) := by rw [← hw3.out]; exact g_drewN (g_set G2.out) 1
    have c321 := B3.cell 321
    rw [rolC_nx] at c321
    have f321 := B3.frozen 321
    obtain ⟨ny, hny⟩ : ∃ ny, Hid ((n + 1) % 64 = ny) := ⟨_, rfl⟩
    rw [hny.out] at hfin
    have t2 : ((nx : Int) + 1).tmod 64 = (ny : Int) := by rw [Int.tmod_eq_emod_of_nonneg (by omega)]; have := hny.out; have := hnx.out; omega
    have B4 := hidIt (hfin.out (w3.setCell ⟨g, 321, none⟩ (.int .i64 (ny : Int))) (by rw [← rolC_putN (nx := nx)]; exact B3.set_ _ _))
    have G4 : Hid (w.grownBy (w3.setCell ⟨g, 321, none⟩ (.int .i64 (ny : Int))) (some g)) := g_set G3.out
    clear hfin hw3 B3 G3 B2 G2 hR hR2 h
    go_wp2_with (fail)
    go_end0
    exact ⟨rfl, B4.out, G4.out⟩
  · have hmin : Hid (min n win = win) := by show _ = _; omega
    rw [hmin.out] at hBh
    obtain ⟨o, ho⟩ : ∃ o, Hid (ys.getD (n - win) 0 = o) := ⟨_, rfl⟩
    obtain ⟨q, hq⟩ : ∃ q, Hid ((n - win) % 64 = q) := ⟨_, rfl⟩
    have lq : q < 64 := by rw [← hq.out]; exact Nat.mod_lt _ (by decide)
    have hRq : Hid (R q = o) := by
      have := hR (n - win) (by rw [hn.out]; omega) (by rw [hn.out]; omega)
      rw [hq.out, ho.out] at this
      exact this
    have lo : o < 256 := by rw [← hRq.out]; exact hR2 q
    obtain ⟨to, hto, lto⟩ : ∃ to, Hid (T o = to) ∧ to < 18446744073709551616 := ⟨_, rfl, h.out.tl _⟩
    obtain ⟨r1, hr1, lr1⟩ : ∃ r1, Hid (Rh.rot to win = r1) ∧ r1 < 18446744073709551616 := ⟨_, rfl, Rh.rot_lt lto win⟩
    obtain ⟨s3, hs3, es3, ls3⟩ : ∃ s3 : Nat, Hid (s2 ^^^ r1 = s3) ∧ bits BinOp.xor IntKind.u64 (s2 : Int) (r1 : Int) = (s3 : Int) ∧ s3 < 18446744073709551616 := ⟨_, rfl, u64_xor_nat _ _ ls2 lr1, Rh.xor_lt ls2 lr1⟩
    have hrot2 : Hid (∀ W, Calls Tryd.prog 28 #[.int .u64 to, .int .i64 win] W fun e w' => e = .returned (.int .u64 r1) ∧ W = w') := fun W => by rw [← hr1.out]; exact rotl_any to win win rfl lto l1 l2 W
    go_enter Tryd.func19, Tryd.ntmps19
    go_wp2_with (fail)
    apply wp_to
    case h1 =>
      go_region_law (first | (go_simp; go_at_call 28; refine (hrot.out (w.drewN 1)).mono ?_; rintro e w2 ⟨rfl, rfl⟩))
      all_goals exact ⟨rfl, rfl⟩
    clear c323 cb f323 hrot es2 i1
    obtain ⟨w1, hw1, B1⟩ : ∃ w1, Hid ((w.drewN 1).setCell ⟨g, 323, none⟩ (.int .u64 (s2 : Int)) = w1) ∧ Blk w1 g 52 (rolC T win R nx win s2).toArray := ⟨_, rfl, by rw [← rolC_putS]; exact (hBh.out.drewN 1).set_ _ _⟩
    rw [hw1.out]
    have G1 : Hid (w.grownBy w1 (some g)) := by rw [← hw1.out]; exact g_set (g_drewN (g_refl _ _) _)
    clear hBh
    have c322 := B1.cell 322
    rw [rolC_ct] at c322
    have c256 := B1.cell 256
    rw [rolC_win] at c256
    have c321 := B1.cell 321
    rw [rolC_nx] at c321
    have cq := B1.cell (257 + q)
    rw [rolC_ring q lq, hRq.out] at cq
    have c323 := B1.cell 323
    rw [rolC_sm] at c323
    have cto := B1.cell o
    rw [rolC_tab o lo, hto.out] at cto
    have f323 := B1.frozen 323
    have t1 : ¬ (win : Int) < (win : Int) := by omega
    have t2 : ((nx : Int) - (win : Int) + 64).tmod 64 = (q : Int) := by rw [Int.tmod_eq_emod_of_nonneg (by omega)]; have := hnx.out; have := hq.out; omega
    have t3 : IntKind.i64.wrap ((nx : Int) - (win : Int)) = (nx : Int) - (win : Int) := IntWalk.i64_in _ (by omega)
    have t4 : IntKind.i64.wrap ((nx : Int) - (win : Int) + 64) = (nx : Int) - (win : Int) + 64 := IntWalk.i64_in _ (by omega)
    have t5 : (q : Int) < 64 := by omega
    have t6 : (0 : Int) ≤ (q : Int) := by omega
    have i2 : (o : Int) < 256 := by omega
    go_wp2_with (fail)
    go_quiet (fail)
    go_wp2_with (fail)
    go_quiet (fail)
    go_wp2_with (fail)
    rename_i na
    obtain ⟨wq, hwq, Bq, Gq⟩ : ∃ wq, Hid ((w1.drewN na).drewN nq = wq) ∧ Blk wq g 52 (rolC T win R nx win s2).toArray ∧ Hid (w.grownBy wq (some g)) := ⟨_, rfl, (B1.drewN _).drewN _, g_drewN (g_drewN G1.out _) _⟩
    rw [hwq.out]
    clear c322 c256 c321 cq c323 cto f323 t1 t2 t3 t4
    have c256 := Bq.cell 256
    rw [rolC_win] at c256
    have c323 := Bq.cell 323
    rw [rolC_sm] at c323
    have cto := Bq.cell o
    rw [rolC_tab o lo, hto.out] at cto
    have f323 := Bq.frozen 323
    have hBq := hidIt Bq
    clear Bq
    apply wp_to
    case h1 =>
      go_region_law (first | (go_simp; go_at_call 28; refine (hrot2.out (wq.drewN 1)).mono ?_; rintro e w2 ⟨rfl, rfl⟩))
      all_goals exact ⟨rfl, rfl⟩
    clear c256 c323 cto f323
    obtain ⟨ws, hws, Bs⟩ : ∃ ws, Hid ((wq.drewN 1).setCell ⟨g, 323, none⟩ (.int .u64 (s3 : Int)) = ws) ∧ Blk ws g 52 (rolC T win R nx win s3).toArray := ⟨_, rfl, by rw [← rolC_putS]; exact (hBq.out.drewN 1).set_ _ _⟩
    rw [hws.out]
    have Gs : Hid (w.grownBy ws (some g)) := by rw [← hws.out]; exact g_set (g_drewN Gq.out _)
    have hfin : Hid (∀ w', Blk w' g 52 (rolC T win (fun j => if j = nx then b else R j) ((n + 1) % 64) win s3).toArray → RS w' g T win (ys ++ [b])) := fun w' hB' => by
      refine ⟨h.out.tl, h.out.w1, h.out.w2, last_snoc_list ys b hb h.out.yl, fun j => if j = nx then b else R j, ?_, ?_, ?_⟩
      · have := hR.push b
        rw [hn.out, hnx.out] at this
        exact this
      · intro i; show (if i = nx then b else R i) < 256; split
        · exact hb
        · exact hR2 i
      · rw [List.length_append, List.length_singleton, hn.out, show min (n + 1) win = win by omega, Rh.push_ge h.out.tl win ys b l1 (by rw [hn.out]; omega), hsm.out, htb.out, ← Rh.rot_one, hs1.out, hs2.out, hn.out, ho.out, hto.out, hr1.out, hs3.out]
        exact hB'
    clear hws B1 hBq Gq hwq G1 hw1 hs1 hs2 htb ls1 ls2 lsm ltb hmin hs3 es3 ls3 hr1 lr1 hrot2 hto lto hRq ho hq t5 t6 i2 lo lq
    have c321 := Bs.cell 321
    rw [rolC_nx] at c321
    have f257 := Bs.frozen (257 + nx)
    have cR := Bs.cell (257 + nx)
    rw [rolC_ring nx lnx] at cR
    have t2 : (nx : Int) < 64 := by omega
    have t3 : (0 : Int) ≤ (nx : Int) := by omega
    go_wp2_with (fail)
    apply wp_to
    case h1 =>
      go_region
      all_goals exact ⟨rfl, rfl⟩
    clear cR f257 c321 t2 t3
    obtain ⟨w3, hw3, B3⟩ : ∃ w3, Hid ((ws.setCell ⟨g, 257 + nx, none⟩ (.int .u8 (b : Int))).drew = w3) ∧ Blk w3 g 52 (rolC T win (fun j => if j = nx then b else R j) nx win s3).toArray := ⟨_, rfl, by rw [← rolC_putR nx b lnx]; exact (Bs.set_ _ _).drewN 1⟩
    rw [hw3.out]
    have G3 : Hid (w.grownBy w3 (some g)) := by rw [← hw3.out]; exact g_drewN (g_set Gs.out) 1
    have c321 := B3.cell 321
    rw [rolC_nx] at c321
    have f321 := B3.frozen 321
    obtain ⟨ny, hny⟩ : ∃ ny, Hid ((n + 1) % 64 = ny) := ⟨_, rfl⟩
    rw [hny.out] at hfin
    have t2 : ((nx : Int) + 1).tmod 64 = (ny : Int) := by rw [Int.tmod_eq_emod_of_nonneg (by omega)]; have := hny.out; have := hnx.out; omega
    have B4 := hidIt (hfin.out (w3.setCell ⟨g, 321, none⟩ (.int .i64 (ny : Int))) (by rw [← rolC_putN (nx := nx)]; exact B3.set_ _ _))
    have G4 : Hid (w.grownBy (w3.setCell ⟨g, 321, none⟩ (.int .i64 (ny : Int))) (some g)) := g_set G3.out
    clear hfin hw3 B3 G3 Bs Gs hR hR2 h
    go_wp2_with (fail)
    go_end0
    exact ⟨rfl, B4.out, G4.out⟩
end Go.Proofs.YtneiglhcfgnclaaDoor
