import Derived.Test.YtneiglhcfgnclaaDoorRoA
namespace Go.Proofs.YtneiglhcfgnclaaDoor
open Go.RowKit
theorem nat_u64 {n : Int} (h : (Lit.int .u64 n).wf = true) : ∃ m : Nat, n = m ∧ m < 18446744073709551616 := by
  have := bounds_u64 h
  exact ⟨n.toNat, by omega, by omega⟩
set_option maxRecDepth 100000 in
set_option maxHeartbeats 1000000 in
theorem rtables_walk (s : Int) (w : World) (hL : LaidZ w) (h0 : (Lit.int .u64 s).wf = true) :
    Calls Tryd.prog 3 #[.int .u64 s] w fun e w' => e = .returned (.bool true) ∧ Below w.heap.size w w' := by
  obtain ⟨s, rfl, hs⟩ := nat_u64 h0
  clear h0 hs
  go_enter Tryd.func3, Tryd.ntmps3
  go_wp2_with (fail)
  refine (tableS_any s _).mono ?_
  rintro e w1 ⟨g, rfl, hg, hT, hb1⟩
  have T1 := hidIt hT
  have H1 := hidIt hb1
  clear hT hg hb1
  go_wp2_with (fail)
  go_loopw [4] (fun i wr => ∃ k : Nat, k ≤ 256 ∧ i = .int .i64 k ∧ Hid (Blk wr g 47 (tabV s)) ∧ Hid (Below w.heap.size w wr)) (fun i _ => 256 - (intOf i).toNat)
  case atStart => exact ⟨0, by omega, rfl, T1, H1⟩
  case round =>
    obtain ⟨k, hk, rfl, R, hb⟩ := hrel
    by_cases hlt : k < 256
    · have c := R.out.cell k
      have e0 : (tabV s)[k]? = some (.int .u64 (Rh.num s k : Int)) := by unfold tabV; rw [rowA_all _ _ _ _ hlt]
      rw [e0] at c
      have cn : Hid (∀ m, Calls Tryd.prog 12 #[.int .u64 s, .int .i64 k] (wr.drewN m) fun e w' => e = .returned (.int .u64 (Rh.num s k)) ∧ wr.drewN m = w') := fun m => refnum_any s k (by omega) _
      clear e0 T1 H1
      generalize Rh.num s k = y at c cn
      have z1 : (k : Int) < 256 := by omega
      go_wp2_with (fail)
      go_quiet (first | (go_at_call 12; exact Calls.quiet_of_same ((cn.out _).mono fun _ _ z => ⟨z.1, z.2.symm⟩)))
      have R2 : Hid (Blk (wr.drewN nq) g 47 (tabV s)) := R.out.drewN nq
      have hb2 := hidIt (below_drewN hb.out nq)
      clear R hb c cn
      go_wp2_with (fail)
      go_roundw
      case rel => exact ⟨k + 1, by omega, by go_num, R2, hb2⟩
      case measure => simp [intOf]; omega
    · obtain rfl : k = 256 := by omega
      have L := hidIt (hL.below hb.out hL.two)
      clear R T1 H1
      go_wp2_with (fail)
      refine (awake_any _ L.out).mono ?_
      rintro e w2 ⟨rfl, hb2⟩
      have H2 := hidIt (below_then hb.out hb2)
      clear hb2
      go_wp2_with (fail)
      go_ret
      exact ⟨rfl, H2.out⟩
theorem rzeros_walk (x : Int) (w : World) (hL : LaidZ w) (h0 : (Lit.int .u64 x).wf = true) :
    Calls Tryd.prog 10 #[.int .u64 x] w fun e w' => e = .returned (.bool true) ∧ Below w.heap.size w w' := by
  obtain ⟨x, rfl, hx⟩ := nat_u64 h0
  clear h0
  obtain ⟨z, hz⟩ : ∃ z, Hid (Lib.ctz 64 x = z) := ⟨_, rfl⟩
  go_enter Tryd.func10, Tryd.ntmps10
  go_wp2_with (fail)
  refine (awake_any _ hL).mono ?_
  rintro e w1 ⟨rfl, hb1⟩
  have H1 := hidIt hb1
  have L1 := hidIt (hL.below hb1 hL.two)
  clear hb1
  go_wp2_with (fail)
  refine (zeros_any x hx _ L1.out).mono ?_
  rintro e w2 ⟨rfl, rfl⟩
  rw [hz.out]
  go_wp2_with (fail)
  refine (refzeros_any x hx _).mono ?_
  rintro e w2 ⟨rfl, rfl⟩
  rw [hz.out]
  go_wp2_with (fail)
  go_ret
  exact ⟨rfl, H1.out⟩
set_option maxRecDepth 100000 in
set_option maxHeartbeats 1000000 in
theorem rhashes_walk (a : Option Addr) (len cap : Nat) (bs : List Nat) (s : Int) (w : World) (hL : LaidZ w) (h0 : (Lit.int .u64 s).wf = true) (h1 : RowB w a len cap bs) :
    Calls Tryd.prog 4 #[.int .u64 s, .slice a len cap] w fun e w' => e = .returned (.bool true) ∧ Below w.heap.size w w' := by
  obtain ⟨s, rfl, hs⟩ := nat_u64 h0
  clear h0 hs
  obtain ⟨hB, rfl, -, hlt, hcap, -⟩ := h1
  by_cases h70 : 70 < bs.length
  · have t : (bs.length : Int) > 70 := by omega
    go_enter Tryd.func4, Tryd.ntmps4
    go_wp2_with (fail)
    refine (awake_any _ hL).mono ?_
    rintro e w2 ⟨rfl, hb2⟩
    have H2 := hidIt hb2
    clear hb2
    go_wp2_with (fail)
    go_ret
    exact ⟨rfl, H2.out⟩
  · have t : ¬ (bs.length : Int) > 70 := by omega
    by_cases h64 : 64 < bs.length
    · have t2 : (bs.length : Int) > 64 := by omega
      go_enter Tryd.func4, Tryd.ntmps4
      go_wp2_with (fail)
      refine (ofbad_any s a cap bs.length h64 (by omega) _).mono ?_
      rintro e w2 ⟨rfl, rfl⟩
      go_wp2_with (fail)
      refine (awake_any _ hL).mono ?_
      rintro e w2 ⟨rfl, hb2⟩
      have H2 := hidIt hb2
      clear hb2
      go_wp2_with (fail)
      go_ret
      exact ⟨rfl, H2.out⟩
    · have t2 : ¬ (bs.length : Int) > 64 := by omega
      have BB := hidIt hB
      obtain ⟨y, hy⟩ : ∃ y, Hid (Rh.hsh (Rh.num s) bs = y) := ⟨_, rfl⟩
      clear hB
      go_enter Tryd.func4, Tryd.ntmps4
      go_wp2_with (fail)
      refine (of_any s a cap bs (by omega) hcap hlt _ BB.out).mono ?_
      rintro e w2 ⟨rfl, hb2⟩
      rw [hy.out]
      have H2 := hidIt hb2
      have B2 := hidIt (BB.out.below hb2)
      clear hb2
      go_wp2_with (fail)
      refine (awake_any _ (hL.below H2.out hL.two)).mono ?_
      rintro e w3 ⟨rfl, hb3⟩
      have H3 := hidIt (below_then H2.out hb3)
      have B3 := hidIt (B2.out.below hb3)
      clear hb3
      go_wp2_with (fail)
      refine (refhash_any s a bs.length cap bs rfl (by omega) hcap hlt _ B3.out).mono ?_
      rintro e w4 ⟨rfl, rfl⟩
      rw [hy.out]
      go_wp2_with (fail)
      go_ret
      exact ⟨rfl, H3.out⟩
end Go.Proofs.YtneiglhcfgnclaaDoor
