import Derived.Test.YtneiglhcfgnclaaDoorRo9
namespace Go.Proofs.YtneiglhcfgnclaaDoor
open Go.RowKit
theorem rot1_i {x : Nat} (hx : x < 18446744073709551616) : bits BinOp.or IntKind.u64 (IntKind.u64.wrap ((x : Int) * 2)) ((x : Int) / 9223372036854775808) = (Rh.rot1 x : Int) := rot1_int hx
theorem three (T : Nat → Nat) (a b c : Nat) : Rh.hsh T (Rh.last 2 [a, b, c]) = Rh.rot1 (T b) ^^^ T c := by
  have e : Rh.hsh T (Rh.last 2 [a, b, c]) = Rh.rot1 (Rh.rot1 0 ^^^ T b) ^^^ T c := rfl
  rw [e, Rh.rot1_zero, Nat.zero_xor]
set_option maxRecDepth 100000 in
set_option maxHeartbeats 1000000 in
theorem awake_any (w : World) (hL : LaidZ w) :
    Calls Tryd.prog 13 #[] w fun e w' => e = .returned (.bool true) ∧ Below w.heap.size w w' := by
  have n0 : Hid (Rh.num 0 0 = 16294208416658607535) := by show _ = _; decide +kernel
  obtain ⟨x2, hx2, lx2⟩ : ∃ x, Hid (Rh.num 0 2 = x) ∧ x < 18446744073709551616 := ⟨_, rfl, Rh.num_lt 0 2⟩
  obtain ⟨x3, hx3, lx3⟩ : ∃ x, Hid (Rh.num 0 3 = x) ∧ x < 18446744073709551616 := ⟨_, rfl, Rh.num_lt 0 3⟩
  have hr := rot1_int lx2
  obtain ⟨r2, hr2, lr2⟩ : ∃ x, Hid (Rh.rot1 x2 = x) ∧ x < 18446744073709551616 := ⟨_, rfl, Rh.rot1_lt lx2⟩
  rw [hr2.out] at hr
  obtain ⟨y, ey, ly, hy⟩ := hxor_lt lr2 lx3
  have h3 : Hid (Rh.hsh (Rh.num 0) (Rh.last 2 [1, 2, 3]) = y) := by show _ = _; rw [three, hx2.out, hx3.out, hr2.out]; exact hy.out.symm
  go_enter Tryd.func13, Tryd.ntmps13
  go_wp2_with (fail)
  refine (tableS_any 0 _).mono ?_
  rintro e w1 ⟨t, rfl, ht, hT, hb1⟩
  have T1 := hidIt hT
  have G1 := hidIt ht
  have H1 := hidIt hb1
  clear hT ht hb1
  go_wp2_with (fail)
  refine (new_any 0 2 _).mono ?_
  rintro e w2 ⟨g, rfl, hg, hS, hb2⟩
  have S2 := hidIt hS
  rw [show wnd 2 = 2 from rfl] at S2
  have T2 := hidIt (T1.out.below hb2 T1.out.lt)
  have H2 := hidIt (below_then H1.out hb2)
  have tlt : t < w1.heap.size := T1.out.lt
  have gt : g ≠ t := by have := hg; omega
  have gw : Hid (w.heap.size ≤ g) := by show _ ≤ _; have := hb2.size; have := H1.out.size; omega
  have c0 := T2.out.cell 0
  have e0 : (tabV 0)[0]? = some (.int .u64 16294208416658607535) := by unfold tabV; rw [rowA_all _ _ _ _ (by decide), n0.out]; rfl
  rw [e0] at c0
  clear hS hg hb2 tlt e0
  go_wp2_with (fail)
  refine (push_any g (Rh.num 0) 2 [] 1 (by decide) (by decide) _ S2).mono ?_
  rintro e w3 ⟨rfl, hS3, hg3⟩
  have S3 := hidIt hS3
  have T3 := hidIt (T2.out.grown hg3 (by simp; omega))
  have H3 := hidIt (H2.out.trans (below_g hg3 gw.out S2.out.lt))
  clear hS3 hg3 c0
  go_wp2_with (fail)
  refine (push_any g (Rh.num 0) 2 _ 2 (by decide) (by decide) _ S3).mono ?_
  rintro e w4 ⟨rfl, hS3, hg3⟩
  have S4 := hidIt hS3
  have T4 := hidIt (T3.out.grown hg3 (by simp; omega))
  have H4 := hidIt (H3.out.trans (below_g hg3 gw.out S3.out.lt))
  clear hS3 hg3
  go_wp2_with (fail)
  refine (push_any g (Rh.num 0) 2 _ 3 (by decide) (by decide) _ S4).mono ?_
  rintro e w5 ⟨rfl, hS3, hg3⟩
  have S5 : Hid (RS w5 g (Rh.num 0) 2 [1, 2, 3]) := hS3
  have T5 := hidIt (T4.out.grown hg3 (by simp; omega))
  have H5 := hidIt (H4.out.trans (below_g hg3 gw.out S4.out.lt))
  clear hS3 hg3 S4 S3 S2 T1 T2 T3 T4 H1 H2 H3 H4
  have c2 := T5.out.cell 2
  have e2 : (tabV 0)[2]? = some (.int .u64 (x2 : Int)) := by unfold tabV; rw [rowA_all _ _ _ _ (by decide), hx2.out]
  rw [e2] at c2
  have c3 := T5.out.cell 3
  have e3 : (tabV 0)[3]? = some (.int .u64 (x3 : Int)) := by unfold tabV; rw [rowA_all _ _ _ _ (by decide), hx3.out]
  rw [e3] at c3
  clear e2 e3 n0 hx2 hx3
  have L5 := hidIt (hL.below H5.out hL.two)
  have S6 : Hid (∀ m, Hid (RS (w5.drewN m) g (Rh.num 0) 2 [1, 2, 3])) := fun m => S5.out.below (below_drewN (Below.refl w5.heap.size w5) m) S5.out.lt
  have cl : Hid (∀ m, Calls Tryd.prog 17 #[.pointer (some ⟨g, 0, none⟩)] (w5.drewN m) fun e w' => e = .returned (.int .i64 2) ∧ w5.drewN m = w') := fun m => len_any g (Rh.num 0) 2 [1, 2, 3] _ (S6.out m)
  have cs : Hid (∀ m, Calls Tryd.prog 18 #[.pointer (some ⟨g, 0, none⟩)] (w5.drewN m) fun e w' => e = .returned (.int .u64 (y : Int)) ∧ w5.drewN m = w') := fun m => by rw [← h3.out]; exact sum_any g (Rh.num 0) 2 [1, 2, 3] _ (S6.out m)
  have cz : Hid (∀ m, Calls Tryd.prog 25 #[.int .u64 40] (w5.drewN m) fun e w' => e = .returned (.int .i64 3) ∧ w5.drewN m = w') := fun m => zeros_any 40 (by decide) _ (L5.out.below (below_drewN (Below.refl w5.heap.size w5) m) L5.out.two)
  clear S6 S5 T5 L5 h3 hy
  go_wp2_with (fail)
  go_quiet (first | (go_at_call 17; exact Calls.quiet_of_same ((cl.out _).mono fun _ _ z => ⟨z.1, z.2.symm⟩)) | (go_at_call 18; exact Calls.quiet_of_same ((cs.out _).mono fun _ _ z => ⟨z.1, z.2.symm⟩)) | (go_at_call 25; exact Calls.quiet_of_same ((cz.out _).mono fun _ _ z => ⟨z.1, z.2.symm⟩)))
  have H6 := hidIt (below_drewN H5.out nq)
  go_wp2_with (fail)
  go_ret
  exact ⟨rfl, H6.out⟩
end Go.Proofs.YtneiglhcfgnclaaDoor
