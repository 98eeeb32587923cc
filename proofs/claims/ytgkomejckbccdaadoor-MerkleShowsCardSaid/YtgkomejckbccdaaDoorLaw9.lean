import Derived.Test.YtgkomejckbccdaaDoorOf
import Derived.Test.YtgkomejckbccdaaDoorReach
import Derived.Test.YtgkomejckbccdaaDoorAwkP
namespace Go.Proofs.YtgkomejckbccdaaDoor
open Go.RowKit
/-- the two roots, and whether two strings with one sum were met -/
def MeetR (a b r s : ByteArray) (w0 : World) (e : Ending) (w' : World) : Prop := (∃ t : Bool, e = .returned (.tuple #[.string r, .string s, .bool t]) ∧ Hid (a ≠ b → r = s → t = true)) ∧ Below w0.heap.size w0 w'
set_option maxRecDepth 100000 in
set_option maxHeartbeats 1000000 in
theorem meets_rec (nP capP : Nat) (P : List ByteArray) (a b : ByteArray) (hP : ∀ s ∈ P, s.size = 32) (ha : a.size = 32) (hb : b.size = 32) (hnP : nP ≤ 1000) (m : Nat) : ∀ (aP : Option Addr) (i n : Nat) (r s : ByteArray) (w : World), Hid (Mk.up a P a m i n = (r, true)) → Hid (Mk.up b P b m i n = (s, true)) → 1 ≤ n → n < 9223372036854775808 → i < n → m ≤ nP → Laid w → Hid (RdS w aP nP capP P) →
    Calls Tryd.prog 50 #[.string a, .string b, .int .i64 (i : Int), .int .i64 (n : Int), .slice aP m capP] w (MeetR a b r s w) := by
  induction m with
  | zero =>
    intro aP i n r s w hu hv h1 hn hi hm hL hRP
    have hu2 := hu.out
    have hv2 := hv.out
    unfold Mk.up at hu2 hv2
    by_cases hn1 : n = 1
    · rw [if_pos hn1] at hu2 hv2
      obtain ⟨rfl, _⟩ := Prod.mk.inj hu2
      obtain ⟨rfl, _⟩ := Prod.mk.inj hv2
      have t1 : ((n : Int) == 1) = true := by simp; omega
      clear hu hv hu2 hv2 hn1 hRP
      go_enter Tryd.func50, Tryd.ntmps50
      go_wp2_with (fail)
      refine bodyPost_ret (results_tmp3 rfl _ _ _) rfl ?_
      exact ⟨⟨false, rfl, fun h1 h2 => absurd h2 h1⟩, Below.refl _ _⟩
    · rw [if_neg hn1] at hu2
      exact absurd (Prod.mk.inj hu2).2 (by decide)
  | succ m ih =>
    intro aP i n r s w hu hv h1 hn hi hm hL hRP
    have hu2 := hu.out
    have hv2 := hv.out
    unfold Mk.up at hu2 hv2
    by_cases hn1 : n = 1
    · rw [if_pos hn1] at hu2
      exact absurd (Prod.mk.inj hu2).2 (by decide)
    have h2 : 2 ≤ n := by omega
    have t1 : ((n : Int) == 1) = false := by simp; omega
    obtain ⟨l, hl⟩ : ∃ l, Hid (m + 1 = l) := ⟨_, rfl⟩
    have t0 : ((l : Int) == 0) = false := by have := hl.out; simp; omega
    obtain ⟨k, hk⟩ : ∃ k, Hid (Mk.spl n = k) := ⟨_, rfl⟩
    obtain ⟨y, hy⟩ : ∃ y, Hid (P.getD m ByteArray.empty = y) := ⟨_, rfl⟩
    have hmP : Hid (m < P.length) := by show _ < _; have := hRP.out.len; omega
    have y32 : Hid (y.size = 32) := by show _ = _; rw [← hy.out]; exact getD_sum hP hmP.out
    have hkl : Hid (k < n) := by show _ < _; rw [← hk.out]; exact Mk.spl_lt h2
    have hkp : Hid (0 < k) := by show _ < _; rw [← hk.out]; exact Mk.spl_pos n
    have sl3 := fun W => sliceSH aP l capP m (by have := hl.out; have := hRP.out.cap; omega) W
    obtain ⟨bk, o, rfl, hcell⟩ := hRP.out.cell (i := m) (by omega) hy.out
    have z0 : (0 : Int) ≤ (m : Int) := by omega
    have z1 : (m : Int) < (l : Int) := by have := hl.out; omega
    have s1 : (l : Int) - 1 = (m : Int) := by have := hl.out; omega
    have s2 : IntKind.i64.wrap (m : Int) = (m : Int) := IntWalk.i64_in _ (by omega)
    rw [if_neg hn1, hk.out, hy.out] at hu2 hv2
    rw [hl.out]
    have hB0 := Below.refl w.heap.size w
    by_cases his : i < k
    · obtain ⟨⟨x, ok⟩, hur⟩ : ∃ z, Hid (Mk.up a P a m i k = z) := ⟨_, rfl⟩
      obtain ⟨⟨x2, ok2⟩, hur2⟩ : ∃ z, Hid (Mk.up b P b m i k = z) := ⟨_, rfl⟩
      rw [if_pos his, hur.out] at hu2
      rw [if_pos his, hur2.out] at hv2
      obtain ⟨hnode, hok⟩ := Prod.mk.inj hu2
      obtain ⟨hnode2, hok2⟩ := Prod.mk.inj hv2
      have hokt : ok = true := hok
      have hokt2 : ok2 = true := hok2
      subst hokt hokt2
      have hN1 : Hid (Mk.node x y = r) := hnode
      have hN2 : Hid (Mk.node x2 y = s) := hnode2
      have x32 : Hid (x.size = 32) := by show _ = _; have h9 := up32 (x := a) (P := P) ha m i k; rw [hur.out] at h9; exact h9
      have w32 : Hid (x2.size = 32) := by show _ = _; have h9 := up32 (x := b) (P := P) hb m i k; rw [hur2.out] at h9; exact h9
      have dT : Hid (∀ W, Below w.heap.size w W → Calls Tryd.prog 50 #[.string a, .string b, .int .i64 (i : Int), .int .i64 (k : Int), .slice (some ⟨bk, o, none⟩) m capP] W (MeetR a b x x2 W)) := fun W hW =>
        ih (some ⟨bk, o, none⟩) i k x x2 W hur hur2 (by have := hkp.out; omega) (by have := hkl.out; omega) his (by omega) (hL.below hW hL.two) (hRP.out.below hW)
      have dN1 : Hid (∀ W, Below w.heap.size w W → Calls Tryd.prog 20 #[.string x, .string y] W fun e w' => e = .returned (.string r) ∧ Below W.heap.size W w') := fun W hW =>
        refnodez_any x y r hN1.out (by rw [x32.out]; decide) (by rw [y32.out]; decide) W (hL.below hW hL.two)
      have dN2 : Hid (∀ W, Below w.heap.size w W → Calls Tryd.prog 20 #[.string x2, .string y] W fun e w' => e = .returned (.string s) ∧ Below W.heap.size W w') := fun W hW =>
        refnodez_any x2 y s hN2.out (by rw [w32.out]; decide) (by rw [y32.out]; decide) W (hL.below hW hL.two)
      obtain ⟨p1, hp1⟩ : ∃ z, Hid (mark1 ++ x = z) := ⟨_, rfl⟩
      obtain ⟨p2, hp2⟩ : ∃ z, Hid (p1 ++ y = z) := ⟨_, rfl⟩
      have m1s : mark1.size = 1 := rfl
      have f1 : ∀ W, (Op.stringOp .add ({ data := #[1] } : ByteArray) x).run Tryd.prog W = .ok (.string p1) W := fun W => by rw [← hp1.out]; exact add_str mark1 x (by rw [m1s, x32.out]; decide) W
      have p1s : p1.size = 33 := by rw [← hp1.out, ByteArray.size_append, m1s, x32.out]
      have f2 : ∀ W, (Op.stringOp .add p1 y).run Tryd.prog W = .ok (.string p2) W := fun W => by rw [← hp2.out]; exact add_str p1 y (by rw [p1s, y32.out]; decide) W
      obtain ⟨p3, hp3⟩ : ∃ z, Hid (mark1 ++ x2 = z) := ⟨_, rfl⟩
      have f3 : ∀ W, (Op.stringOp .add ({ data := #[1] } : ByteArray) x2).run Tryd.prog W = .ok (.string p3) W := fun W => by rw [← hp3.out]; exact add_str mark1 x2 (by rw [m1s, w32.out]; decide) W
      have p3s : p3.size = 33 := by rw [← hp3.out, ByteArray.size_append, m1s, w32.out]
      obtain ⟨p4, hp4⟩ : ∃ z, Hid (p3 ++ y = z) := ⟨_, rfl⟩
      have f4 : ∀ W, (Op.stringOp .add p3 y).run Tryd.prog W = .ok (.string p4) W := fun W => by rw [← hp4.out]; exact add_str p3 y (by rw [p3s, y32.out]; decide) W
      have e1 : Hid (p2 = nstr x y) := by show _ = _; rw [← hp2.out, ← hp1.out]; rfl
      have e2 : Hid (p4 = nstr x2 y) := by show _ = _; rw [← hp4.out, ← hp3.out]; rfl
      obtain ⟨cb, hcb⟩ : ∃ z, Hid (coll p2 p4 = z) := ⟨_, rfl⟩
      have dC : Hid (∀ W, Calls Tryd.prog 49 #[.string p2, .string p4] W fun e w' => e = .returned (.bool cb) ∧ Below W.heap.size W w') := fun W =>
        collides_any p2 p4 cb hcb (by rw [e1.out, nstr_size, x32.out, y32.out]; decide) (by rw [e2.out, nstr_size, w32.out, y32.out]; decide) W
      have hfin : Hid ((a ≠ b → x = x2 → false = true) → a ≠ b → r = s → cb = true) := fun hf hab hrs => by
        rw [← hcb.out, e1.out, e2.out]
        refine coll_true (fun h => ?_) (by rw [hN1.out, hN2.out]; exact hrs)
        exact absurd (hf hab (nstr_inj (by first | rfl | rw [x32.out, w32.out]) h).1) (by decide)
      have t2 : (i : Int) < (k : Int) := by omega
      clear ih hRP hur hur2 hu hv hu2 hv2 hnode hnode2 hok hok2 hN1 hN2 hy e1 e2 hp1 hp2 hp3 hp4 p1s p3s m1s hn1 hP hcb hmP
      go_enter Tryd.func50, Tryd.ntmps50
      go_wp2_with (fail)
      refine (refsplitz_any n k hk.out h2 (by omega) _).mono ?_
      rintro e w1 ⟨rfl, rfl⟩
      go_wp2_with (fail)
      go_quiet (fail)
      obtain ⟨wq, hwq⟩ : ∃ wq, Hid (w.drewN nq = wq) := ⟨_, rfl⟩
      rw [hwq.out]
      have hBq1 : Hid (Below w.heap.size w wq) := by show Below _ _ _; rw [← hwq.out]; exact below_drewN (Below.refl w.heap.size w) nq
      clear hwq hcell
      go_wp2_with (fail)
      refine (dT.out _ hBq1.out).mono ?_
      rintro e w2 ⟨⟨t, rfl, ht⟩, hb2⟩
      have B2 := hidIt (below_then hBq1.out hb2)
      clear hb2
      cases t with
      | true =>
        go_wp2_with (fail)
        refine (dN1.out _ B2.out).mono ?_
        rintro e w3 ⟨rfl, hb3⟩
        have B3 := hidIt (below_then B2.out hb3)
        clear hb3
        go_wp2_with (fail)
        refine (dN2.out _ B3.out).mono ?_
        rintro e w4 ⟨rfl, hb4⟩
        have B4 := hidIt (below_then B3.out hb4)
        clear hb4
        go_wp2_with (fail)
        refine bodyPost_ret (results_tmp3 rfl _ _ _) rfl ?_
        exact ⟨⟨true, rfl, fun _ _ => rfl⟩, B4.out⟩
      | false =>
        go_wp2_with (fail)
        refine (dN1.out _ B2.out).mono ?_
        rintro e w3 ⟨rfl, hb3⟩
        have B3 := hidIt (below_then B2.out hb3)
        clear hb3
        go_wp2_with (fail)
        refine (dN2.out _ B3.out).mono ?_
        rintro e w4 ⟨rfl, hb4⟩
        have B4 := hidIt (below_then B3.out hb4)
        clear hb4
        go_wp2_with (fail)
        refine (dC.out _).mono ?_
        rintro e w5 ⟨rfl, hb5⟩
        have B5 := hidIt (below_then B4.out hb5)
        clear hb5
        go_wp2_with (fail)
        refine bodyPost_ret (results_tmp3 rfl _ _ _) rfl ?_
        exact ⟨⟨cb, rfl, fun h1 h2 => hfin.out ht.out h1 h2⟩, B5.out⟩
    · obtain ⟨i2, hi2⟩ : ∃ z, Hid (i - k = z) := ⟨_, rfl⟩
      obtain ⟨n2, hn2⟩ : ∃ z, Hid (n - k = z) := ⟨_, rfl⟩
      rw [hi2.out, hn2.out] at hu2 hv2
      obtain ⟨⟨x, ok⟩, hur⟩ : ∃ z, Hid (Mk.up a P a m i2 n2 = z) := ⟨_, rfl⟩
      obtain ⟨⟨x2, ok2⟩, hur2⟩ : ∃ z, Hid (Mk.up b P b m i2 n2 = z) := ⟨_, rfl⟩
      rw [if_neg his, hur.out] at hu2
      rw [if_neg his, hur2.out] at hv2
      obtain ⟨hnode, hok⟩ := Prod.mk.inj hu2
      obtain ⟨hnode2, hok2⟩ := Prod.mk.inj hv2
      have hokt : ok = true := hok
      have hokt2 : ok2 = true := hok2
      subst hokt hokt2
      have hN1 : Hid (Mk.node y x = r) := hnode
      have hN2 : Hid (Mk.node y x2 = s) := hnode2
      have x32 : Hid (x.size = 32) := by show _ = _; have h9 := up32 (x := a) (P := P) ha m i2 n2; rw [hur.out] at h9; exact h9
      have w32 : Hid (x2.size = 32) := by show _ = _; have h9 := up32 (x := b) (P := P) hb m i2 n2; rw [hur2.out] at h9; exact h9
      have dT : Hid (∀ W, Below w.heap.size w W → Calls Tryd.prog 50 #[.string a, .string b, .int .i64 (i2 : Int), .int .i64 (n2 : Int), .slice (some ⟨bk, o, none⟩) m capP] W (MeetR a b x x2 W)) := fun W hW =>
        ih (some ⟨bk, o, none⟩) i2 n2 x x2 W hur hur2 (by have := hkl.out; have := hn2.out; omega) (by have := hn2.out; omega) (by have := hi2.out; have := hn2.out; omega) (by omega) (hL.below hW hL.two) (hRP.out.below hW)
      have dN1 : Hid (∀ W, Below w.heap.size w W → Calls Tryd.prog 20 #[.string y, .string x] W fun e w' => e = .returned (.string r) ∧ Below W.heap.size W w') := fun W hW =>
        refnodez_any y x r hN1.out (by rw [y32.out]; decide) (by rw [x32.out]; decide) W (hL.below hW hL.two)
      have dN2 : Hid (∀ W, Below w.heap.size w W → Calls Tryd.prog 20 #[.string y, .string x2] W fun e w' => e = .returned (.string s) ∧ Below W.heap.size W w') := fun W hW =>
        refnodez_any y x2 s hN2.out (by rw [y32.out]; decide) (by rw [w32.out]; decide) W (hL.below hW hL.two)
      obtain ⟨p1, hp1⟩ : ∃ z, Hid (mark1 ++ y = z) := ⟨_, rfl⟩
      obtain ⟨p2, hp2⟩ : ∃ z, Hid (p1 ++ x = z) := ⟨_, rfl⟩
      have m1s : mark1.size = 1 := rfl
      have f1 : ∀ W, (Op.stringOp .add ({ data := #[1] } : ByteArray) y).run Tryd.prog W = .ok (.string p1) W := fun W => by rw [← hp1.out]; exact add_str mark1 y (by rw [m1s, y32.out]; decide) W
      have p1s : p1.size = 33 := by rw [← hp1.out, ByteArray.size_append, m1s, y32.out]
      have f2 : ∀ W, (Op.stringOp .add p1 x).run Tryd.prog W = .ok (.string p2) W := fun W => by rw [← hp2.out]; exact add_str p1 x (by rw [p1s, x32.out]; decide) W
      obtain ⟨p4, hp4⟩ : ∃ z, Hid (p1 ++ x2 = z) := ⟨_, rfl⟩
      have f4 : ∀ W, (Op.stringOp .add p1 x2).run Tryd.prog W = .ok (.string p4) W := fun W => by rw [← hp4.out]; exact add_str p1 x2 (by rw [p1s, w32.out]; decide) W
      have e1 : Hid (p2 = nstr y x) := by show _ = _; rw [← hp2.out, ← hp1.out]; rfl
      have e2 : Hid (p4 = nstr y x2) := by show _ = _; rw [← hp4.out, ← hp1.out]; rfl
      obtain ⟨cb, hcb⟩ : ∃ z, Hid (coll p2 p4 = z) := ⟨_, rfl⟩
      have dC : Hid (∀ W, Calls Tryd.prog 49 #[.string p2, .string p4] W fun e w' => e = .returned (.bool cb) ∧ Below W.heap.size W w') := fun W =>
        collides_any p2 p4 cb hcb (by rw [e1.out, nstr_size, y32.out, x32.out]; decide) (by rw [e2.out, nstr_size, y32.out, w32.out]; decide) W
      have hfin : Hid ((a ≠ b → x = x2 → false = true) → a ≠ b → r = s → cb = true) := fun hf hab hrs => by
        rw [← hcb.out, e1.out, e2.out]
        refine coll_true (fun h => ?_) (by rw [hN1.out, hN2.out]; exact hrs)
        exact absurd (hf hab (nstr_inj (by first | rfl | rw [y32.out, y32.out]) h).2) (by decide)
      have t2 : ¬ (i : Int) < (k : Int) := by omega
      have u1 : (i : Int) - (k : Int) = (i2 : Int) := by have := hi2.out; omega
      have u2 : IntKind.i64.wrap (i2 : Int) = (i2 : Int) := by have := hi2.out; exact IntWalk.i64_in _ (by omega)
      have u3 : (n : Int) - (k : Int) = (n2 : Int) := by have := hn2.out; have := hkl.out; omega
      have u4 : IntKind.i64.wrap (n2 : Int) = (n2 : Int) := by have := hn2.out; exact IntWalk.i64_in _ (by omega)
      clear ih hRP hur hur2 hu hv hu2 hv2 hnode hnode2 hok hok2 hN1 hN2 hy e1 e2 hp1 hp2 hp4 p1s m1s hn1 hP hcb hmP hi2 hn2
      go_enter Tryd.func50, Tryd.ntmps50
      go_wp2_with (fail)
      refine (refsplitz_any n k hk.out h2 (by omega) _).mono ?_
      rintro e w1 ⟨rfl, rfl⟩
      go_wp2_with (fail)
      go_quiet (fail)
      obtain ⟨wq, hwq⟩ : ∃ wq, Hid (w.drewN nq = wq) := ⟨_, rfl⟩
      rw [hwq.out]
      have hBq1 : Hid (Below w.heap.size w wq) := by show Below _ _ _; rw [← hwq.out]; exact below_drewN (Below.refl w.heap.size w) nq
      clear hwq hcell
      go_wp2_with (fail)
      refine (dT.out _ hBq1.out).mono ?_
      rintro e w2 ⟨⟨t, rfl, ht⟩, hb2⟩
      have B2 := hidIt (below_then hBq1.out hb2)
      clear hb2
      cases t with
      | true =>
        go_wp2_with (fail)
        refine (dN1.out _ B2.out).mono ?_
        rintro e w3 ⟨rfl, hb3⟩
        have B3 := hidIt (below_then B2.out hb3)
        clear hb3
        go_wp2_with (fail)
        refine (dN2.out _ B3.out).mono ?_
        rintro e w4 ⟨rfl, hb4⟩
        have B4 := hidIt (below_then B3.out hb4)
        clear hb4
        go_wp2_with (fail)
        refine bodyPost_ret (results_tmp3 rfl _ _ _) rfl ?_
        exact ⟨⟨true, rfl, fun _ _ => rfl⟩, B4.out⟩
      | false =>
        go_wp2_with (fail)
        refine (dN1.out _ B2.out).mono ?_
        rintro e w3 ⟨rfl, hb3⟩
        have B3 := hidIt (below_then B2.out hb3)
        clear hb3
        go_wp2_with (fail)
        refine (dN2.out _ B3.out).mono ?_
        rintro e w4 ⟨rfl, hb4⟩
        have B4 := hidIt (below_then B3.out hb4)
        clear hb4
        go_wp2_with (fail)
        refine (dC.out _).mono ?_
        rintro e w5 ⟨rfl, hb5⟩
        have B5 := hidIt (below_then B4.out hb5)
        clear hb5
        go_wp2_with (fail)
        refine bodyPost_ret (results_tmp3 rfl _ _ _) rfl ?_
        exact ⟨⟨cb, rfl, fun h1 h2 => hfin.out ht.out h1 h2⟩, B5.out⟩
theorem ver_up {x z : ByteArray} {i n : Nat} {P : List ByteArray} (h : ver x (i : Int) (n : Int) P z = true) : Mk.up x P x P.length i n = (z, true) := by
  unfold ver at h
  split at h
  · rw [Int.toNat_natCast, Int.toNat_natCast] at h
    simp only [Bool.and_eq_true, decide_eq_true_eq] at h
    exact Prod.ext h.2.2 h.2.1
  · cases h
theorem leaves_sum (xs : List Nat) (sz : Nat) (ks : List Nat) : ∀ s ∈ blkLeaves xs sz ks, s.size = 32 := by
  intro s hs
  obtain ⟨k, _, rfl⟩ := List.mem_map.1 hs
  rw [blkLeaf, Mk.leaf_size]
theorem leaves_getD (xs : List Nat) (sz r i : Nat) (h : i < r) : (blkLeaves xs sz (List.range r)).getD i ByteArray.empty = blkLeaf xs sz i := by
  simp [blkLeaves, List.getD, h]
theorem rounds_pos {len sz : Nat} (h : 0 < len) : rounds len sz = (len - 1) / sz + 1 := by unfold rounds; rw [if_neg (by omega)]
theorem seeB_shown {xs ys : List Nat} {P : List ByteArray} {v : ByteArray} {len sz i r : Nat} (hln : len = xs.length) (hr : rounds len sz = r) (hi : i < r) (hs1 : 1 ≤ sz) (hys : (xs.drop (i * sz)).take (blen len sz i) = ys) (hv : Mk.root (blkLeaves xs sz (List.range r)) = v) (hP : Mk.pathL (blkLeaves xs sz (List.range r)) i = P) : seeB v (len : Int) (sz : Int) (i : Int) ys P = true := by
  have hi2 : i < rounds len sz := by rw [hr]; exact hi
  have h0 := rounds_div hi2
  have hp := block_in h0.1
  have hrr := rounds_pos (sz := sz) h0.2
  unfold seeB
  rw [Int.toNat_natCast, Int.toNat_natCast, Int.toNat_natCast]
  rw [if_pos ⟨by omega, by omega, by omega, h0.1, by rw [← hys, List.length_take, List.length_drop, ← hln]; unfold blen; omega⟩, ← hrr, hr]
  have h1 := ver_path (leaves_sum xs sz (List.range r)) (i := i) (by rw [leaves_len]; exact hi)
  rw [leaves_getD _ _ _ _ hi, leaves_len, hP, hv, blkLeaf] at h1
  have h2 : bln xs.length sz i = blen len sz i := by rw [hln]; rfl
  rw [h2, hys] at h1
  exact h1
theorem seeB_ver {os : List Nat} {P : List ByteArray} {v : ByteArray} {len sz i r : Nat} (hr : (len - 1) / sz + 1 = r) (h : seeB v (len : Int) (sz : Int) (i : Int) os P = true) : ver (Mk.leaf os) (i : Int) (r : Int) P v = true := by
  unfold seeB at h
  rw [Int.toNat_natCast, Int.toNat_natCast, Int.toNat_natCast] at h
  split at h
  · rw [hr] at h; exact h
  · cases h
def zero1 : ByteArray := ⟨#[0]⟩
theorem coll_leaf {os ys : List Nat} (ho : ∀ x ∈ os, x < 256) (hy : ∀ x ∈ ys, x < 256) (hne : os ≠ ys) (h : Mk.leaf os = Mk.leaf ys) : coll (zero1 ++ str os) (zero1 ++ str ys) = true := by
  have z : ofStr zero1 = [0] := rfl
  have e1 : ofStr (zero1 ++ str os) = 0 :: os := by rw [ofStr_add, z, ofStr_str os ho]; rfl
  have e2 : ofStr (zero1 ++ str ys) = 0 :: ys := by rw [ofStr_add, z, ofStr_str ys hy]; rfl
  have hn : zero1 ++ str os ≠ zero1 ++ str ys := fun hh => hne (by
    have h3 : ofStr (zero1 ++ str os) = ofStr (zero1 ++ str ys) := by rw [hh]
    rw [e1, e2] at h3
    exact (List.cons.inj h3).2)
  rw [coll, e1, e2]
  have h4 : str (Sh.sum (0 :: os)) = str (Sh.sum (0 :: ys)) := h
  rw [h4]; simp [hn]
set_option maxRecDepth 100000 in
set_option maxHeartbeats 2000000 in
theorem mshows_walk (a0 a3 : Option Addr) (len0 cap0 len3 cap3 : Nat) (xs os : List Nat) (size b : Int) (w : World) (hL : Laid w) (h0 : RowB w a0 len0 cap0 xs) (hs : (Lit.int .i64 size).wf = true) (hb : (Lit.int .i64 b).wf = true) (h3 : RowB w a3 len3 cap3 os) :
    Calls Tryd.prog 15 #[.slice a0 len0 cap0, .int .i64 size, .int .i64 b, .slice a3 len3 cap3] w fun e w' => e = .returned (.bool true) ∧ Below w.heap.size w w' := by
  have hX := hidIt h0
  have hO := hidIt h3
  have bs := hidIt (bounds_i64 hs)
  have bb := hidIt (bounds_i64 hb)
  clear h0 h3 hs hb
  obtain ⟨q20, hq20⟩ : ∃ q, Hid (len0 / 20 = q) := ⟨_, rfl⟩
  have d1 : (len0 : Int).tdiv 20 = (q20 : Int) := by rw [← hq20.out]; simp
  have hql : Hid (q20 ≤ len0) := by show _ ≤ _; rw [← hq20.out]; exact Nat.div_le_self _ _
  go_enter Tryd.func15, Tryd.ntmps15
  go_wp2_with (fail)
  refine (awake9_any _ hL).mono ?_
  rintro e w1 ⟨rfl, hb1⟩
  have B1 := hidIt hb1
  have L1 := hL.below hb1 hL.two
  clear hb1
  by_cases hbig : 200 < len0
  · have t1 : (200 : Int) < (len0 : Int) := by omega
    go_wp2_with (fail)
    refine (awake9_any _ L1).mono ?_
    rintro e w2 ⟨rfl, hb2⟩
    go_wp2_with (fail)
    go_ret
    exact ⟨rfl, below_then B1.out hb2⟩
  have t1 : ¬ (200 : Int) < (len0 : Int) := by omega
  have hlen : Hid (len0 ≤ 200) := by show _ ≤ _; omega
  have d2 : IntKind.i64.wrap (q20 : Int) = (q20 : Int) := by have := hql.out; exact IntWalk.i64_in _ (by omega)
  clear hbig
  by_cases hs1 : size < 1
  · go_wp2_with (fail)
    refine (awake9_any _ L1).mono ?_
    rintro e w2 ⟨rfl, hb2⟩
    go_wp2_with (fail)
    go_ret
    exact ⟨rfl, below_then B1.out hb2⟩
  by_cases hmany : size ≤ (q20 : Int)
  · go_wp2_with (fail)
    refine (awake9_any _ L1).mono ?_
    rintro e w2 ⟨rfl, hb2⟩
    go_wp2_with (fail)
    go_ret
    exact ⟨rfl, below_then B1.out hb2⟩
  by_cases hob : 200 < len3
  · have t4 : (200 : Int) < (len3 : Int) := by omega
    have t3 : ¬ size ≤ (q20 : Int) := hmany
    go_wp2_with (fail)
    refine (awake9_any _ L1).mono ?_
    rintro e w2 ⟨rfl, hb2⟩
    go_wp2_with (fail)
    go_ret
    exact ⟨rfl, below_then B1.out hb2⟩
  have t4 : ¬ (200 : Int) < (len3 : Int) := by omega
  have hol : Hid (len3 ≤ 200) := by show _ ≤ _; omega
  have t3 : ¬ size ≤ (q20 : Int) := hmany
  have t2 : ¬ size < 1 := hs1
  obtain ⟨sz, rfl⟩ := Int.eq_ofNat_of_zero_le (show 0 ≤ size by omega)
  have hz1 : Hid (1 ≤ sz) := by show _ ≤ _; omega
  have hz2 : Hid (sz < 9223372036854775808) := by show _ < _; have := bs.out; omega
  have g2 : ((sz : Int) == 0) = false := by have := hz1.out; simp; omega
  have g5 : ¬ (sz : Int) = 0 := by have := hz1.out; omega
  have g6 : ¬ sz = 0 := by have := hz1.out; omega
  obtain ⟨r, hr⟩ : ∃ r, Hid (rounds len0 sz = r) := ⟨_, rfl⟩
  have hrl : Hid (r ≤ 201) := by
    show _ ≤ _
    rw [← hr.out]
    unfold rounds
    have := hlen.out
    split
    · omega
    · have := Nat.div_le_self (len0 - 1) sz; omega
  obtain ⟨v, hv⟩ : ∃ v, Hid (Mk.root (blkLeaves xs sz (List.range (rounds len0 sz))) = v) := ⟨_, rfl⟩
  clear hs1 hmany hob
  go_wp2_with (fail)
  refine (of_good a0 len0 cap0 sz xs v hv hz1.out hz2.out (by have := hlen.out; omega) _ L1 (rowB_below hX.out B1.out)).mono ?_
  rintro e w2 ⟨rfl, hb2⟩
  have B2 := hidIt (below_then B1.out hb2)
  clear hb2
  by_cases hbr : b < 0 ∨ (rounds len0 sz : Int) ≤ b
  · have hbr2 := hidIt hbr
    clear hbr
    go_wp2_with (fail)
    refine (show_bad2 a0 len0 cap0 sz b xs hbr2.out hz1.out hz2.out (by have := hlen.out; omega) _ (hL.below B2.out hL.two) (rowB_below hX.out B2.out)).mono ?_
    rintro e w3 ⟨rfl, hb3⟩
    have B3 := hidIt (below_then B2.out hb3)
    clear hb3
    by_cases hneg : b < 0
    · go_wp2_with (fail)
      go_ret
      exact ⟨rfl, B3.out⟩
    have u0 : ¬ b < 0 := hneg
    by_cases hz : len0 = 0
    · have u1 : ((len0 : Int) == 0) = true := by simp; omega
      obtain ⟨m1, hm1⟩ : ∃ m : Int, Hid ((len0 : Int) - 1 = m) := ⟨_, rfl⟩
      have e1 : (len0 : Int) - 1 = m1 := hm1.out
      have e2 : IntKind.i64.wrap m1 = m1 := by have := hm1.out; exact IntWalk.i64_in _ (by omega)
      obtain ⟨z, hzz⟩ : ∃ z : Int, Hid (m1.tdiv (sz : Int) = z) := ⟨_, rfl⟩
      have e3 : m1.tdiv (sz : Int) = z := hzz.out
      have hzb : Hid (-1 ≤ z ∧ z ≤ 1) := by
        show _ ∧ _
        have hm : m1 = -1 := by have := hm1.out; omega
        rw [← hzz.out, hm]
        have h8 := Int.natAbs_tdiv_le_natAbs (-1) (sz : Int)
        have h9 : (-1 : Int).natAbs = 1 := rfl
        omega
      have e4 : IntKind.i64.wrap z = z := by have := hzb.out; exact IntWalk.i64_in _ (by omega)
      clear hz hneg
      by_cases hzb2 : z < b
      · go_wp2_with (fail)
        go_ret
        exact ⟨rfl, B3.out⟩
      · go_wp2_with (fail)
        go_ret
        exact ⟨rfl, B3.out⟩
    · obtain ⟨m1, hm1⟩ : ∃ m : Nat, Hid (len0 - 1 = m) := ⟨_, rfl⟩
      have e1 : (len0 : Int) - 1 = (m1 : Int) := by have := hm1.out; omega
      have e2 : IntKind.i64.wrap (m1 : Int) = (m1 : Int) := by have := hm1.out; have := hlen.out; exact IntWalk.i64_in _ (by omega)
      obtain ⟨z, hzz⟩ : ∃ z : Nat, Hid (m1 / sz = z) := ⟨_, rfl⟩
      have hzm : Hid (z ≤ m1) := by show _ ≤ _; rw [← hzz.out]; exact Nat.div_le_self _ _
      have e3 : (m1 : Int).tdiv (sz : Int) = (z : Int) := by rw [← hzz.out]; simp
      have e3' : (m1 : Int) / (sz : Int) = (z : Int) := by rw [← hzz.out]; simp
      have e4 : IntKind.i64.wrap (z : Int) = (z : Int) := by have := hzm.out; have := hm1.out; have := hlen.out; exact IntWalk.i64_in _ (by omega)
      have hzb : (z : Int) < b := by
        have h5 := hbr2.out
        rw [rounds_pos (by omega), hm1.out, hzz.out] at h5
        omega
      clear hz hneg
      go_wp2_with (fail)
      go_ret
      exact ⟨rfl, B3.out⟩
  obtain ⟨i, rfl⟩ := Int.eq_ofNat_of_zero_le (show 0 ≤ b by omega)
  have hir : Hid (i < rounds len0 sz) := by show _ < _; omega
  obtain ⟨P, hP⟩ : ∃ P, Hid (Mk.pathL (blkLeaves xs sz (List.range (rounds len0 sz))) i = P) := ⟨_, rfl⟩
  obtain ⟨ys, hys⟩ : ∃ ys, Hid ((xs.drop (i * sz)).take (blen len0 sz i) = ys) := ⟨_, rfl⟩
  have h0len : Hid (0 < len0) := (rounds_div hir.out).2
  have hrp : Hid ((len0 - 1) / sz + 1 = r) := by show _ = _; rw [← rounds_pos h0len.out]; exact hr.out
  have hP32 : Hid (∀ s ∈ P, s.size = 32) := by
    show ∀ s ∈ P, _
    rw [← hP.out]
    exact pathL_sums (leaves_sum _ _ _) _ 0 _ i (Nat.le_refl _)
  have hSm : Hid (Sm P) := fun s hs => by rw [hP32.out s hs]; decide
  have hPl : Hid (P.length ≤ 9) := by
    show _ ≤ _
    rw [← hP.out]
    have := Mk.path_len 9 (Mk.part (blkLeaves xs sz (List.range (rounds len0 sz)))) 0 (blkLeaves xs sz (List.range (rounds len0 sz))).length i (by rw [leaves_len, hr.out]; have := hrl.out; omega)
    exact this
  have hsy : Hid (seeB v (len0 : Int) (sz : Int) (i : Int) ys P = true) := seeB_shown hX.out.len hr.out (by rw [← hr.out]; exact hir.out) hz1.out hys.out (by rw [← hr.out]; exact hv.out) (by rw [← hr.out]; exact hP.out)
  have hyl : Hid (ys.length ≤ 200) := by show _ ≤ _; rw [← hys.out, List.length_take, List.length_drop, ← hX.out.len]; have := hlen.out; omega
  have bl0 : Hid (-9223372036854775808 ≤ (len0 : Int) ∧ (len0 : Int) ≤ 9223372036854775807) := by show _ ∧ _; have := hlen.out; omega
  clear hbr
  go_wp2_with (fail)
  refine (show_good a0 len0 cap0 sz i xs ys P hir.out hys hP hz1.out hz2.out (by have := hlen.out; omega) _ (hL.below B2.out hL.two) (rowB_below hX.out B2.out)).mono ?_
  rintro e w3 ⟨a1, c1, p1, k1, rfl, hy1, hp1, hb3⟩
  have B3 := hidIt (below_then B2.out hb3)
  obtain ⟨nl, hnl⟩ : ∃ l, Hid (ys.length = l) := ⟨_, rfl⟩
  obtain ⟨pl, hpl⟩ : ∃ l, Hid (P.length = l) := ⟨_, rfl⟩
  rw [hpl.out] at hp1
  rw [hnl.out] at hy1
  rw [hnl.out, hpl.out]
  have hy3 := hidIt hy1
  have hp3 := hidIt hp1
  clear hb3 hy1 hp1
  go_wp2_with (fail)
  refine (see_any v (len0 : Int) (sz : Int) (i : Int) a1 p1 nl c1 pl k1 ys P true hsy hSm.out (by have := hPl.out; have := hpl.out; omega) (by have := hyl.out; omega) bl0 bs bb _ (hL.below B3.out hL.two) hy3 hp3).mono ?_
  rintro e w4 ⟨rfl, hb4⟩
  have B4 := hidIt (below_then B3.out hb4)
  have hy4 := hidIt (rowB_below hy3.out hb4)
  have hp4 := hidIt (hp3.out.below hb4)
  clear hb4 hy3 hp3
  obtain ⟨so, hso⟩ : ∃ s, Hid (str os = s) := ⟨_, rfl⟩
  obtain ⟨sy, hsy2⟩ : ∃ s, Hid (str ys = s) := ⟨_, rfl⟩
  have cv : Hid (∀ W, Below w4.heap.size w4 W → (convert 22 9 (.slice a3 len3 cap3)).run Tryd.prog W = .ok (.string so) W ∧ (convert 22 9 (.slice a1 nl c1)).run Tryd.prog W = .ok (.string sy) W) := fun W hW => by
    have k1 := conv_str W a3 len3 cap3 os hO.out.len (rowB_below hO.out (below_then B4.out hW)).bytes
    have k2 := conv_str W a1 nl c1 ys hnl.out.symm (rowB_below hy4.out hW).bytes
    rw [hso.out] at k1
    rw [hsy2.out] at k2
    exact ⟨k1, k2⟩
  obtain ⟨cs1, cs2⟩ := cv.out w4 (Below.refl _ _)
  by_cases heq : so = sy
  · have q : (so.toList == sy.toList) = true := by rw [str_beq]; simp [heq]
    clear heq
    go_wp2_with (fail)
    go_ret
    exact ⟨rfl, B4.out⟩
  have q : (so.toList == sy.toList) = false := by rw [str_beq]; simp [heq]
  have hne : Hid (os ≠ ys) := fun h => heq (by rw [← hso.out, ← hsy2.out, h])
  obtain ⟨t, ht⟩ : ∃ t, Hid (seeB v (len0 : Int) (sz : Int) (i : Int) os P = t) := ⟨_, rfl⟩
  clear heq
  go_wp2_with (fail)
  refine (see_any v (len0 : Int) (sz : Int) (i : Int) a3 p1 len3 cap3 pl k1 os P t ht hSm.out (by have := hPl.out; have := hpl.out; omega) (by rw [← hO.out.len]; have := hol.out; omega) bl0 bs bb _ (hL.below B4.out hL.two) (rowB_below hO.out B4.out) hp4).mono ?_
  rintro e w5 ⟨rfl, hb5⟩
  have B5 := hidIt (below_then B4.out hb5)
  have hy5 := hidIt (rowB_below hy4.out hb5)
  have hp5 := hidIt (hp4.out.below hb5)
  have C5 := hidIt hb5
  clear hb5 hy4 hp4 cs1 cs2
  cases t with
  | false =>
    go_wp2_with (fail)
    go_ret
    exact ⟨rfl, B5.out⟩
  | true =>
  obtain ⟨lo, hlo⟩ : ∃ s, Hid (Mk.leaf os = s) := ⟨_, rfl⟩
  obtain ⟨ly, hly⟩ : ∃ s, Hid (Mk.leaf ys = s) := ⟨_, rfl⟩
  have dO : Hid (∀ W, Below w5.heap.size w5 W → Calls Tryd.prog 17 #[.slice a3 len3 cap3] W fun e w' => e = .returned (.string lo) ∧ Below W.heap.size W w') := fun W hW => by
    have h7 := leaf_any a3 len3 cap3 os hO.out.len hO.out.lt (by rw [← hO.out.len]; have := hol.out; omega) hO.out.lecap W (hL.below (below_then B5.out hW) hL.two) (rowB_below hO.out (below_then B5.out hW)).bytes
    rw [hlo.out] at h7; exact h7
  have dY : Hid (∀ W, Below w5.heap.size w5 W → Calls Tryd.prog 17 #[.slice a1 nl c1] W fun e w' => e = .returned (.string ly) ∧ Below W.heap.size W w') := fun W hW => by
    have h7 := leaf_any a1 nl c1 ys hnl.out.symm hy5.out.lt (by have := hyl.out; omega) hy5.out.lecap W (hL.below (below_then B5.out hW) hL.two) (rowB_below hy5.out hW).bytes
    rw [hly.out] at h7; exact h7
  have hvo : Hid (Mk.up lo P lo P.length i r = (v, true)) := by show _ = _; rw [← hlo.out]; exact ver_up (seeB_ver hrp.out ht.out)
  have hvy : Hid (Mk.up ly P ly P.length i r = (v, true)) := by show _ = _; rw [← hly.out]; exact ver_up (seeB_ver hrp.out hsy.out)
  have lo32 : Hid (lo.size = 32) := by show _ = _; rw [← hlo.out]; exact Mk.leaf_size _
  have ly32 : Hid (ly.size = 32) := by show _ = _; rw [← hly.out]; exact Mk.leaf_size _
  go_wp2_with (fail)
  refine (dO.out _ (Below.refl _ _)).mono ?_
  rintro e w6 ⟨rfl, hb6⟩
  have C6 := hidIt hb6
  clear hb6
  go_wp2_with (fail)
  refine (dY.out _ C6.out).mono ?_
  rintro e w7 ⟨rfl, hb7⟩
  have C7 := hidIt (below_then C6.out hb7)
  clear hb7
  by_cases hll : lo = ly
  · have q3 : (lo.toList == ly.toList) = true := by rw [str_beq]; simp [hll]
    obtain ⟨cs1, cs2⟩ := cv.out w7 (below_then C5.out C7.out)
    obtain ⟨z1, hz1'⟩ : ∃ z, Hid (zero1 ++ so = z) := ⟨_, rfl⟩
    obtain ⟨z2, hz2'⟩ : ∃ z, Hid (zero1 ++ sy = z) := ⟨_, rfl⟩
    have m1s : zero1.size = 1 := rfl
    have sos : so.size = len3 := by rw [← hso.out, str_size, ← hO.out.len]
    have sys : sy.size = nl := by rw [← hsy2.out, str_size, hnl.out]
    have nl2 : nl ≤ 200 := by rw [← hnl.out]; exact hyl.out
    have f1 : ∀ W, (Op.stringOp .add ({ data := #[0] } : ByteArray) so).run Tryd.prog W = .ok (.string z1) W := fun W => by rw [← hz1'.out]; exact add_str zero1 so (by rw [m1s, sos]; have := hol.out; omega) W
    have f2 : ∀ W, (Op.stringOp .add ({ data := #[0] } : ByteArray) sy).run Tryd.prog W = .ok (.string z2) W := fun W => by rw [← hz2'.out]; exact add_str zero1 sy (by rw [m1s, sys]; omega) W
    have hcc : Hid (coll z1 z2 = true) := by
      show _ = _
      rw [← hz1'.out, ← hz2'.out, ← hso.out, ← hsy2.out]
      exact coll_leaf hO.out.lt hy5.out.lt hne.out (by rw [hlo.out, hly.out]; exact hll)
    have z1s : z1.size ≤ 1000 := by rw [← hz1'.out, ByteArray.size_append, m1s, sos]; have := hol.out; omega
    have z2s : z2.size ≤ 1000 := by rw [← hz2'.out, ByteArray.size_append, m1s, sys]; omega
    have dC : Hid (∀ W, Calls Tryd.prog 49 #[.string z1, .string z2] W fun e w' => e = .returned (.bool true) ∧ Below W.heap.size W w') := fun W => collides_any z1 z2 true hcc z1s z2s W
    clear hll hz1' hz2' sos sys nl2 z1s z2s m1s hcc
    go_wp2_with (fail)
    refine (dC.out _).mono ?_
    rintro e w8 ⟨rfl, hb8⟩
    go_wp2_with (fail)
    go_ret
    exact ⟨rfl, below_then (below_then B5.out C7.out) hb8⟩
  have q3 : (lo.toList == ly.toList) = false := by rw [str_beq]; simp [hll]
  have hll2 := hidIt hll
  obtain ⟨m1, hm1⟩ : ∃ m : Nat, Hid (len0 - 1 = m) := ⟨_, rfl⟩
  have e1 : (len0 : Int) - 1 = (m1 : Int) := by have := hm1.out; have := h0len.out; omega
  have e2 : IntKind.i64.wrap (m1 : Int) = (m1 : Int) := by have := hm1.out; have := hlen.out; exact IntWalk.i64_in _ (by omega)
  obtain ⟨z, hzz⟩ : ∃ z : Nat, Hid (m1 / sz = z) := ⟨_, rfl⟩
  have hzm : Hid (z ≤ m1) := by show _ ≤ _; rw [← hzz.out]; exact Nat.div_le_self _ _
  have e3 : (m1 : Int).tdiv (sz : Int) = (z : Int) := by rw [← hzz.out]; simp
  have e3' : (m1 : Int) / (sz : Int) = (z : Int) := by rw [← hzz.out]; simp
  have e4 : IntKind.i64.wrap (z : Int) = (z : Int) := by have := hzm.out; have := hm1.out; have := hlen.out; exact IntWalk.i64_in _ (by omega)
  have hzr : Hid (z + 1 = r) := by show _ = _; rw [← hzz.out, hm1.out.symm]; exact hrp.out
  have e5 : (z : Int) + 1 = (r : Int) := by have := hzr.out; omega
  have e6 : IntKind.i64.wrap (r : Int) = (r : Int) := by have := hrl.out; exact IntWalk.i64_in _ (by omega)
  have dM : Hid (∀ W, Below w5.heap.size w5 W → Calls Tryd.prog 50 #[.string lo, .string ly, .int .i64 (i : Int), .int .i64 (r : Int), .slice p1 pl k1] W fun e w' => e = .returned (.tuple #[.string v, .string v, .bool true]) ∧ Below W.heap.size W w') := fun W hW => by
    refine (meets_rec pl k1 P lo ly hP32.out lo32.out ly32.out (by have := hPl.out; have := hpl.out; omega) pl p1 i r v v W (by rw [← hpl.out]; exact hvo) (by rw [← hpl.out]; exact hvy) (by have := hzr.out; omega) (by have := hrl.out; omega) (by rw [← hr.out]; exact hir.out) (Nat.le_refl _) (hL.below (below_then B5.out hW) hL.two) (hp5.out.below hW)).mono ?_
    rintro e w' ⟨⟨t, rfl, ht⟩, hb⟩
    rw [ht.out hll2.out rfl]
    exact ⟨rfl, hb⟩
  have CC := C7.out
  clear hll hll2 hX hO hsy hv hP hys hP32 hSm hvo hvy hy5 hp5 ht cv hne hm1 hzz hzr hzm hrp hr hir
  go_wp2_with (fail)
  go_region_held3 (fun W => Below w5.heap.size w5 W)
    (first | assumption | exact Below.drew (by assumption) | exact below_then (by assumption) (by assumption))
    (first
      | (go_at_call 17; (with_reducible refine Calls.mono (dO.out _ ?_) ?_); (focus assumption); rintro e w8 ⟨rfl, hb8⟩)
      | (go_at_call 17; (with_reducible refine Calls.mono (dY.out _ ?_) ?_); (focus assumption); rintro e w9 ⟨rfl, hb9⟩)
      | (go_at_call 50; (with_reducible refine Calls.mono (dM.out _ ?_) ?_); (focus assumption); rintro e w10 ⟨rfl, hb10⟩))
  all_goals
    have hB7 : Hid (Below w5.heap.size w5 w10) := by show Below _ _ _; assumption
    go_wp2
    go_ret
    exact ⟨rfl, below_then B5.out hB7.out⟩
end Go.Proofs.YtgkomejckbccdaaDoor
