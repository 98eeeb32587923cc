import Derived.Test.YtegfbmekpmdcaaaDoorOr5
namespace Go.Proofs.YtegfbmekpmdcaaaDoor
open Go.RowKit
set_option maxRecDepth 100000 in
set_option maxHeartbeats 2000000 in
theorem orec_a1 (b s : Int) (pu dig : ByteArray) (a : Option Addr) (n cap : Nat) (ss : List ByteArray) (ho : okZ b s = false) (h300 : 300 < (n : Int)) (w : World) (hL : LaidH w) (hR : RdS w a n cap ss) :
    Calls Tryd.prog 6 #[.agg #[.int .i64 b, .int .i64 s], .string pu, .string dig, .slice a n cap] w fun e w' => e = .returned (.bool true) ∧ Below w.heap.size w w' := by
  have dR : Hid (∀ W, Calls Tryd.prog 16 #[.agg #[.int .i64 b, .int .i64 s]] W fun e w' => e = .returned (.bool false) ∧ Below W.heap.size W w') := fun W => refvalid_f b s ho W
  have p0 := rs_new w b s
  have e0 := p0.c0
  have e1 := p0.c1
  have L0 := hL.below p0.bel hL.two
  have hS_0 := hidIt (hR.at'.below p0.bel)
  clear ho hR
  go_enter Tryd.func6, Tryd.ntmps6
  go_wp2_with (fail)
  refine (awake_any _ L0).mono ?_
  rintro e w1 ⟨rfl, hb1⟩
  have p_1 := p0.next hb1
  have hS_1 := hidIt (hS_0.out.below hb1)
  have L_1 := hL.below p_1.bel hL.two
  clear hb1 p0 hS_0 L0 e0 e1
  have e0 := p_1.c0
  have e1 := p_1.c1
  go_wp2_with (fail)
  refine (dR.out _).mono ?_
  rintro e w2 ⟨rfl, hb2⟩
  have p_2 := p_1.next hb2
  have hS_2 := hidIt (hS_1.out.below hb2)
  have L_2 := hL.below p_2.bel hL.two
  clear hb2 p_1 hS_1 L_1 e0 e1
  have e0 := p_2.c0
  have e1 := p_2.c1
  have HB := hidIt p_2.bel
  clear p_2 L_2 dR
  go_wp2_with (fail)
  go_ret
  exact ⟨rfl, HB.out⟩
set_option maxRecDepth 100000 in
set_option maxHeartbeats 2000000 in
theorem orec_a2 (b s : Int) (pu dig : ByteArray) (a : Option Addr) (n cap : Nat) (ss : List ByteArray) (ho : okZ b s = false) (h300 : ¬ 300 < (n : Int)) (w : World) (hL : LaidH w) (hR : RdS w a n cap ss) :
    Calls Tryd.prog 6 #[.agg #[.int .i64 b, .int .i64 s], .string pu, .string dig, .slice a n cap] w fun e w' => e = .returned (.bool true) ∧ Below w.heap.size w w' := by
  have dR : Hid (∀ W, Calls Tryd.prog 16 #[.agg #[.int .i64 b, .int .i64 s]] W fun e w' => e = .returned (.bool false) ∧ Below W.heap.size W w') := fun W => refvalid_f b s ho W
  have t0 : (({ data := #[] } : ByteArray).toList == ({ data := #[] } : ByteArray).toList) = true := by simp
  have dP : Hid (∀ W, Calls Tryd.prog 13 #[.agg #[.int .i64 b, .int .i64 s]] W fun e w' => e = .returned (.agg #[.int .i64 b, .int .i64 s]) ∧ Below W.heap.size W w') := fun W => params_any _ _ W
  have dK : Hid (∀ W, Strs W a ss → Calls Tryd.prog 33 #[.agg #[.int .i64 b, .int .i64 s], .string dig, .slice a n cap] W fun e w' => e = .returned (.tuple #[.string ⟨#[]⟩, .int .i64 1]) ∧ Below W.heap.size W w') := fun W hS => recover_no _ _ dig a n cap ss hR.len (by omega) (fun h => by rw [h.1] at ho; cases ho) W hS
  have dV : Hid (∀ W, Strs W a ss → Calls Tryd.prog 34 #[.agg #[.int .i64 b, .int .i64 s], .string pu, .string dig, .slice a n cap] W fun e w' => e = .returned (.bool false) ∧ Below W.heap.size W w') := fun W hS => verify_no _ _ dig a n cap ss hR.len (by omega) (fun h => by rw [h.1] at ho; cases ho) pu W hS
  have p0 := rs_new w b s
  have e0 := p0.c0
  have e1 := p0.c1
  have L0 := hL.below p0.bel hL.two
  have hS_0 := hidIt (hR.at'.below p0.bel)
  clear ho hR
  go_enter Tryd.func6, Tryd.ntmps6
  go_wp2_with (fail)
  refine (awake_any _ L0).mono ?_
  rintro e w1 ⟨rfl, hb1⟩
  have p_1 := p0.next hb1
  have hS_1 := hidIt (hS_0.out.below hb1)
  have L_1 := hL.below p_1.bel hL.two
  clear hb1 p0 hS_0 L0 e0 e1
  have e0 := p_1.c0
  have e1 := p_1.c1
  go_wp2_with (fail)
  refine (dR.out _).mono ?_
  rintro e w2 ⟨rfl, hb2⟩
  have p_2 := p_1.next hb2
  have hS_2 := hidIt (hS_1.out.below hb2)
  have L_2 := hL.below p_2.bel hL.two
  clear hb2 p_1 hS_1 L_1 e0 e1
  have e0 := p_2.c0
  have e1 := p_2.c1
  go_wp2_with (fail)
  refine (dP.out _).mono ?_
  rintro e w3 ⟨rfl, hb3⟩
  have p_3 := p_2.next hb3
  have hS_3 := hidIt (hS_2.out.below hb3)
  have L_3 := hL.below p_3.bel hL.two
  clear hb3 p_2 hS_2 L_2 e0 e1
  have e0 := p_3.c0
  have e1 := p_3.c1
  go_wp2_with (fail)
  refine (dK.out _ hS_3.out).mono ?_
  rintro e w4 ⟨rfl, hb4⟩
  have p_4 := p_3.next hb4
  have hS_4 := hidIt (hS_3.out.below hb4)
  have L_4 := hL.below p_4.bel hL.two
  clear hb4 p_3 hS_3 L_3 e0 e1
  have e0 := p_4.c0
  have e1 := p_4.c1
  go_wp2_with (fail)
  refine (dP.out _).mono ?_
  rintro e w5 ⟨rfl, hb5⟩
  have p_5 := p_4.next hb5
  have hS_5 := hidIt (hS_4.out.below hb5)
  have L_5 := hL.below p_5.bel hL.two
  clear hb5 p_4 hS_4 L_4 e0 e1
  have e0 := p_5.c0
  have e1 := p_5.c1
  go_wp2_with (fail)
  refine (dV.out _ hS_5.out).mono ?_
  rintro e w6 ⟨rfl, hb6⟩
  have p_6 := p_5.next hb6
  have hS_6 := hidIt (hS_5.out.below hb6)
  have L_6 := hL.below p_6.bel hL.two
  clear hb6 p_5 hS_5 L_5 e0 e1
  have e0 := p_6.c0
  have e1 := p_6.c1
  go_wp2_with (fail)
  refine (dR.out _).mono ?_
  rintro e w7 ⟨rfl, hb7⟩
  have p_7 := p_6.next hb7
  have hS_7 := hidIt (hS_6.out.below hb7)
  have L_7 := hL.below p_7.bel hL.two
  clear hb7 p_6 hS_6 L_6 e0 e1
  have e0 := p_7.c0
  have e1 := p_7.c1
  have HB := hidIt p_7.bel
  clear p_7 L_7 dR dP dK dV
  go_wp2_with (fail)
  go_ret
  exact ⟨rfl, HB.out⟩
set_option maxRecDepth 100000 in
set_option maxHeartbeats 2000000 in
theorem orec_b (b s : Nat) (pu dig : ByteArray) (a : Option Addr) (n cap : Nat) (ss : List ByteArray) (ho : Ot.okB b s = true) (hs : smB (b : Int) (s : Int) = false) (w : World) (hL : LaidH w) (_hR : RdS w a n cap ss) :
    Calls Tryd.prog 6 #[.agg #[.int .i64 (b : Int), .int .i64 (s : Int)], .string pu, .string dig, .slice a n cap] w fun e w' => e = .returned (.bool true) ∧ Below w.heap.size w w' := by
  have dR : Hid (∀ W, Calls Tryd.prog 16 #[.agg #[.int .i64 (b : Int), .int .i64 (s : Int)]] W fun e w' => e = .returned (.bool true) ∧ Below W.heap.size W w') := fun W => refvalid_t _ _ (by rw [okZ_nat]; exact ho) W
  have dM : Hid (∀ W, Calls Tryd.prog 27 #[.agg #[.int .i64 (b : Int), .int .i64 (s : Int)]] W fun e w' => e = .returned (.bool false) ∧ Below W.heap.size W w') := fun W => hs ▸ refsmall_any _ _ W
  have p0 := rs_new w (b : Int) (s : Int)
  have e0 := p0.c0
  have e1 := p0.c1
  have L0 := hL.below p0.bel hL.two
  clear ho hs _hR
  go_enter Tryd.func6, Tryd.ntmps6
  go_wp2_with (fail)
  refine (awake_any _ L0).mono ?_
  rintro e w1 ⟨rfl, hb1⟩
  have p_1 := p0.next hb1
  have L_1 := hL.below p_1.bel hL.two
  clear hb1 p0 L0 e0 e1
  have e0 := p_1.c0
  have e1 := p_1.c1
  go_wp2_with (fail)
  refine (dR.out _).mono ?_
  rintro e w2 ⟨rfl, hb2⟩
  have p_2 := p_1.next hb2
  have L_2 := hL.below p_2.bel hL.two
  clear hb2 p_1 L_1 e0 e1
  have e0 := p_2.c0
  have e1 := p_2.c1
  go_wp2_with (fail)
  refine (dM.out _).mono ?_
  rintro e w3 ⟨rfl, hb3⟩
  have p_3 := p_2.next hb3
  have L_3 := hL.below p_3.bel hL.two
  clear hb3 p_2 L_2 e0 e1
  have e0 := p_3.c0
  have e1 := p_3.c1
  have HB := hidIt p_3.bel
  clear p_3 L_3 dR dM
  go_wp2_with (fail)
  go_ret
  exact ⟨rfl, HB.out⟩
set_option maxRecDepth 100000 in
set_option maxHeartbeats 2000000 in
theorem orec_c (b s : Nat) (pu dig : ByteArray) (a : Option Addr) (n cap : Nat) (ss : List ByteArray) (ho : Ot.okB b s = true) (hs : smB (b : Int) (s : Int) = true) (h300 : 300 < (n : Int)) (w : World) (hL : LaidH w) (_hR : RdS w a n cap ss) :
    Calls Tryd.prog 6 #[.agg #[.int .i64 (b : Int), .int .i64 (s : Int)], .string pu, .string dig, .slice a n cap] w fun e w' => e = .returned (.bool true) ∧ Below w.heap.size w w' := by
  have dR : Hid (∀ W, Calls Tryd.prog 16 #[.agg #[.int .i64 (b : Int), .int .i64 (s : Int)]] W fun e w' => e = .returned (.bool true) ∧ Below W.heap.size W w') := fun W => refvalid_t _ _ (by rw [okZ_nat]; exact ho) W
  have dM : Hid (∀ W, Calls Tryd.prog 27 #[.agg #[.int .i64 (b : Int), .int .i64 (s : Int)]] W fun e w' => e = .returned (.bool true) ∧ Below W.heap.size W w') := fun W => hs ▸ refsmall_any _ _ W
  have p0 := rs_new w (b : Int) (s : Int)
  have e0 := p0.c0
  have e1 := p0.c1
  have L0 := hL.below p0.bel hL.two
  clear ho hs _hR
  go_enter Tryd.func6, Tryd.ntmps6
  go_wp2_with (fail)
  refine (awake_any _ L0).mono ?_
  rintro e w1 ⟨rfl, hb1⟩
  have p_1 := p0.next hb1
  have L_1 := hL.below p_1.bel hL.two
  clear hb1 p0 L0 e0 e1
  have e0 := p_1.c0
  have e1 := p_1.c1
  go_wp2_with (fail)
  refine (dR.out _).mono ?_
  rintro e w2 ⟨rfl, hb2⟩
  have p_2 := p_1.next hb2
  have L_2 := hL.below p_2.bel hL.two
  clear hb2 p_1 L_1 e0 e1
  have e0 := p_2.c0
  have e1 := p_2.c1
  go_wp2_with (fail)
  refine (dM.out _).mono ?_
  rintro e w3 ⟨rfl, hb3⟩
  have p_3 := p_2.next hb3
  have L_3 := hL.below p_3.bel hL.two
  clear hb3 p_2 L_2 e0 e1
  have e0 := p_3.c0
  have e1 := p_3.c1
  have HB := hidIt p_3.bel
  clear p_3 L_3 dR dM
  go_wp2_with (fail)
  go_ret
  exact ⟨rfl, HB.out⟩
set_option maxRecDepth 100000 in
set_option maxHeartbeats 2000000 in
theorem orec_d (b s : Nat) (pu dig : ByteArray) (a : Option Addr) (n cap : Nat) (ss : List ByteArray) (ho : Ot.okB b s = true) (hs : smB (b : Int) (s : Int) = true) (h300 : ¬ 300 < (n : Int)) (hd : ¬ (dig.size : Int) = (s : Int)) (w : World) (hL : LaidH w) (hR : RdS w a n cap ss) :
    Calls Tryd.prog 6 #[.agg #[.int .i64 (b : Int), .int .i64 (s : Int)], .string pu, .string dig, .slice a n cap] w fun e w' => e = .returned (.bool true) ∧ Below w.heap.size w w' := by
  have t0 : (({ data := #[] } : ByteArray).toList == ({ data := #[] } : ByteArray).toList) = true := by simp
  have dR : Hid (∀ W, Calls Tryd.prog 16 #[.agg #[.int .i64 (b : Int), .int .i64 (s : Int)]] W fun e w' => e = .returned (.bool true) ∧ Below W.heap.size W w') := fun W => refvalid_t _ _ (by rw [okZ_nat]; exact ho) W
  have dM : Hid (∀ W, Calls Tryd.prog 27 #[.agg #[.int .i64 (b : Int), .int .i64 (s : Int)]] W fun e w' => e = .returned (.bool true) ∧ Below W.heap.size W w') := fun W => hs ▸ refsmall_any _ _ W
  have dP : Hid (∀ W, Calls Tryd.prog 13 #[.agg #[.int .i64 (b : Int), .int .i64 (s : Int)]] W fun e w' => e = .returned (.agg #[.int .i64 (b : Int), .int .i64 (s : Int)]) ∧ Below W.heap.size W w') := fun W => params_any _ _ W
  have dK : Hid (∀ W, Strs W a ss → Calls Tryd.prog 33 #[.agg #[.int .i64 (b : Int), .int .i64 (s : Int)], .string dig, .slice a n cap] W fun e w' => e = .returned (.tuple #[.string ⟨#[]⟩, .int .i64 1]) ∧ Below W.heap.size W w') := fun W hS => recover_no _ _ dig a n cap ss hR.len (by omega) (fun h => hd h.2.1) W hS
  have dV : Hid (∀ W, Strs W a ss → Calls Tryd.prog 34 #[.agg #[.int .i64 (b : Int), .int .i64 (s : Int)], .string pu, .string dig, .slice a n cap] W fun e w' => e = .returned (.bool false) ∧ Below W.heap.size W w') := fun W hS => verify_no _ _ dig a n cap ss hR.len (by omega) (fun h => hd h.2.1) pu W hS
  have p0 := rs_new w (b : Int) (s : Int)
  have e0 := p0.c0
  have e1 := p0.c1
  have L0 := hL.below p0.bel hL.two
  have hS_0 := hidIt (hR.at'.below p0.bel)
  clear ho hs hR
  go_enter Tryd.func6, Tryd.ntmps6
  go_wp2_with (fail)
  refine (awake_any _ L0).mono ?_
  rintro e w1 ⟨rfl, hb1⟩
  have p_1 := p0.next hb1
  have hS_1 := hidIt (hS_0.out.below hb1)
  have L_1 := hL.below p_1.bel hL.two
  clear hb1 p0 hS_0 L0 e0 e1
  have e0 := p_1.c0
  have e1 := p_1.c1
  go_wp2_with (fail)
  refine (dR.out _).mono ?_
  rintro e w2 ⟨rfl, hb2⟩
  have p_2 := p_1.next hb2
  have hS_2 := hidIt (hS_1.out.below hb2)
  have L_2 := hL.below p_2.bel hL.two
  clear hb2 p_1 hS_1 L_1 e0 e1
  have e0 := p_2.c0
  have e1 := p_2.c1
  go_wp2_with (fail)
  refine (dM.out _).mono ?_
  rintro e w3 ⟨rfl, hb3⟩
  have p_3 := p_2.next hb3
  have hS_3 := hidIt (hS_2.out.below hb3)
  have L_3 := hL.below p_3.bel hL.two
  clear hb3 p_2 hS_2 L_2 e0 e1
  have e0 := p_3.c0
  have e1 := p_3.c1
  go_wp2_with (fail)
  refine (dP.out _).mono ?_
  rintro e w4 ⟨rfl, hb4⟩
  have p_4 := p_3.next hb4
  have hS_4 := hidIt (hS_3.out.below hb4)
  have L_4 := hL.below p_4.bel hL.two
  clear hb4 p_3 hS_3 L_3 e0 e1
  have e0 := p_4.c0
  have e1 := p_4.c1
  go_wp2_with (fail)
  refine (dK.out _ hS_4.out).mono ?_
  rintro e w5 ⟨rfl, hb5⟩
  have p_5 := p_4.next hb5
  have hS_5 := hidIt (hS_4.out.below hb5)
  have L_5 := hL.below p_5.bel hL.two
  clear hb5 p_4 hS_4 L_4 e0 e1
  have e0 := p_5.c0
  have e1 := p_5.c1
  go_wp2_with (fail)
  refine (dP.out _).mono ?_
  rintro e w6 ⟨rfl, hb6⟩
  have p_6 := p_5.next hb6
  have hS_6 := hidIt (hS_5.out.below hb6)
  have L_6 := hL.below p_6.bel hL.two
  clear hb6 p_5 hS_5 L_5 e0 e1
  have e0 := p_6.c0
  have e1 := p_6.c1
  go_wp2_with (fail)
  refine (dV.out _ hS_6.out).mono ?_
  rintro e w7 ⟨rfl, hb7⟩
  have p_7 := p_6.next hb7
  have hS_7 := hidIt (hS_6.out.below hb7)
  have L_7 := hL.below p_7.bel hL.two
  clear hb7 p_6 hS_6 L_6 e0 e1
  have e0 := p_7.c0
  have e1 := p_7.c1
  go_wp2_with (fail)
  refine (dR.out _).mono ?_
  rintro e w8 ⟨rfl, hb8⟩
  have p_8 := p_7.next hb8
  have hS_8 := hidIt (hS_7.out.below hb8)
  have L_8 := hL.below p_8.bel hL.two
  clear hb8 p_7 hS_7 L_7 e0 e1
  have e0 := p_8.c0
  have e1 := p_8.c1
  have HB := hidIt p_8.bel
  clear p_8 L_8 dR dM dP dK dV
  go_wp2_with (fail)
  go_ret
  exact ⟨rfl, HB.out⟩
set_option maxRecDepth 100000 in
set_option maxHeartbeats 2000000 in
theorem orec_e (b s : Nat) (pu dig : ByteArray) (a : Option Addr) (n cap : Nat) (ss : List ByteArray) (ho : Ot.okB b s = true) (hs : smB (b : Int) (s : Int) = true) (h300 : ¬ 300 < (n : Int)) (hd : (dig.size : Int) = (s : Int)) (hp : ¬ ((∀ i, i < n → (ss.getD i ByteArray.empty).size = 32) ∧ n = Ot.tot b s)) (w : World) (hL : LaidH w) (hR : RdS w a n cap ss) :
    Calls Tryd.prog 6 #[.agg #[.int .i64 (b : Int), .int .i64 (s : Int)], .string pu, .string dig, .slice a n cap] w fun e w' => e = .returned (.bool true) ∧ Below w.heap.size w w' := by
  have t0 : (({ data := #[] } : ByteArray).toList == ({ data := #[] } : ByteArray).toList) = true := by simp
  have dR : Hid (∀ W, Calls Tryd.prog 16 #[.agg #[.int .i64 (b : Int), .int .i64 (s : Int)]] W fun e w' => e = .returned (.bool true) ∧ Below W.heap.size W w') := fun W => refvalid_t _ _ (by rw [okZ_nat]; exact ho) W
  have dM : Hid (∀ W, Calls Tryd.prog 27 #[.agg #[.int .i64 (b : Int), .int .i64 (s : Int)]] W fun e w' => e = .returned (.bool true) ∧ Below W.heap.size W w') := fun W => hs ▸ refsmall_any _ _ W
  have dP : Hid (∀ W, Calls Tryd.prog 13 #[.agg #[.int .i64 (b : Int), .int .i64 (s : Int)]] W fun e w' => e = .returned (.agg #[.int .i64 (b : Int), .int .i64 (s : Int)]) ∧ Below W.heap.size W w') := fun W => params_any _ _ W
  have dK : Hid (∀ W, Strs W a ss → Calls Tryd.prog 33 #[.agg #[.int .i64 (b : Int), .int .i64 (s : Int)], .string dig, .slice a n cap] W fun e w' => e = .returned (.tuple #[.string ⟨#[]⟩, .int .i64 1]) ∧ Below W.heap.size W w') := fun W hS => recover_no _ _ dig a n cap ss hR.len (by omega) (fun h => hp ⟨fun i hi => h.2.2.2 i (by have := hR.len; omega), by have := h.2.2.1; rw [hR.len, this]; simp⟩) W hS
  have dV : Hid (∀ W, Strs W a ss → Calls Tryd.prog 34 #[.agg #[.int .i64 (b : Int), .int .i64 (s : Int)], .string pu, .string dig, .slice a n cap] W fun e w' => e = .returned (.bool false) ∧ Below W.heap.size W w') := fun W hS => verify_no _ _ dig a n cap ss hR.len (by omega) (fun h => hp ⟨fun i hi => h.2.2.2 i (by have := hR.len; omega), by have := h.2.2.1; rw [hR.len, this]; simp⟩) pu W hS
  have dT : Hid (∀ W, Strs W a ss → Calls Tryd.prog 35 #[.agg #[.int .i64 (b : Int), .int .i64 (s : Int)], .slice a n cap] W fun e w' => e = .returned (.bool false) ∧ Below W.heap.size W w') := fun W hS => refparts_any b s ho a n cap ss hR.len (by omega) false (hidIt (by simpa using hp)) W hS
  have p0 := rs_new w (b : Int) (s : Int)
  have e0 := p0.c0
  have e1 := p0.c1
  have L0 := hL.below p0.bel hL.two
  have hS_0 := hidIt (hR.at'.below p0.bel)
  clear ho hs hR hp
  go_enter Tryd.func6, Tryd.ntmps6
  go_wp2_with (fail)
  refine (awake_any _ L0).mono ?_
  rintro e w1 ⟨rfl, hb1⟩
  have p_1 := p0.next hb1
  have hS_1 := hidIt (hS_0.out.below hb1)
  have L_1 := hL.below p_1.bel hL.two
  clear hb1 p0 hS_0 L0 e0 e1
  have e0 := p_1.c0
  have e1 := p_1.c1
  go_wp2_with (fail)
  refine (dR.out _).mono ?_
  rintro e w2 ⟨rfl, hb2⟩
  have p_2 := p_1.next hb2
  have hS_2 := hidIt (hS_1.out.below hb2)
  have L_2 := hL.below p_2.bel hL.two
  clear hb2 p_1 hS_1 L_1 e0 e1
  have e0 := p_2.c0
  have e1 := p_2.c1
  go_wp2_with (fail)
  refine (dM.out _).mono ?_
  rintro e w3 ⟨rfl, hb3⟩
  have p_3 := p_2.next hb3
  have hS_3 := hidIt (hS_2.out.below hb3)
  have L_3 := hL.below p_3.bel hL.two
  clear hb3 p_2 hS_2 L_2 e0 e1
  have e0 := p_3.c0
  have e1 := p_3.c1
  go_wp2_with (fail)
  refine (dP.out _).mono ?_
  rintro e w4 ⟨rfl, hb4⟩
  have p_4 := p_3.next hb4
  have hS_4 := hidIt (hS_3.out.below hb4)
  have L_4 := hL.below p_4.bel hL.two
  clear hb4 p_3 hS_3 L_3 e0 e1
  have e0 := p_4.c0
  have e1 := p_4.c1
  go_wp2_with (fail)
  refine (dK.out _ hS_4.out).mono ?_
  rintro e w5 ⟨rfl, hb5⟩
  have p_5 := p_4.next hb5
  have hS_5 := hidIt (hS_4.out.below hb5)
  have L_5 := hL.below p_5.bel hL.two
  clear hb5 p_4 hS_4 L_4 e0 e1
  have e0 := p_5.c0
  have e1 := p_5.c1
  go_wp2_with (fail)
  refine (dP.out _).mono ?_
  rintro e w6 ⟨rfl, hb6⟩
  have p_6 := p_5.next hb6
  have hS_6 := hidIt (hS_5.out.below hb6)
  have L_6 := hL.below p_6.bel hL.two
  clear hb6 p_5 hS_5 L_5 e0 e1
  have e0 := p_6.c0
  have e1 := p_6.c1
  go_wp2_with (fail)
  refine (dV.out _ hS_6.out).mono ?_
  rintro e w7 ⟨rfl, hb7⟩
  have p_7 := p_6.next hb7
  have hS_7 := hidIt (hS_6.out.below hb7)
  have L_7 := hL.below p_7.bel hL.two
  clear hb7 p_6 hS_6 L_6 e0 e1
  have e0 := p_7.c0
  have e1 := p_7.c1
  go_wp2_with (fail)
  refine (dR.out _).mono ?_
  rintro e w8 ⟨rfl, hb8⟩
  have p_8 := p_7.next hb8
  have hS_8 := hidIt (hS_7.out.below hb8)
  have L_8 := hL.below p_8.bel hL.two
  clear hb8 p_7 hS_7 L_7 e0 e1
  have e0 := p_8.c0
  have e1 := p_8.c1
  go_wp2_with (fail)
  refine (dT.out _ hS_8.out).mono ?_
  rintro e w9 ⟨rfl, hb9⟩
  have p_9 := p_8.next hb9
  have hS_9 := hidIt (hS_8.out.below hb9)
  have L_9 := hL.below p_9.bel hL.two
  clear hb9 p_8 hS_8 L_8 e0 e1
  have e0 := p_9.c0
  have e1 := p_9.c1
  have HB := hidIt p_9.bel
  clear p_9 L_9 dR dM dP dK dV dT
  go_wp2_with (fail)
  go_ret
  exact ⟨rfl, HB.out⟩
set_option maxRecDepth 100000 in
set_option maxHeartbeats 2000000 in
theorem orec_f (b s : Nat) (pu dig : ByteArray) (a : Option Addr) (n cap : Nat) (ss : List ByteArray) (ho : Ot.okB b s = true) (hs : smB (b : Int) (s : Int) = true) (h300 : ¬ 300 < (n : Int)) (hd : (dig.size : Int) = (s : Int)) (hp : (∀ i, i < n → (ss.getD i ByteArray.empty).size = 32) ∧ n = Ot.tot b s) (w : World) (hL : LaidH w) (hR : RdS w a n cap ss) :
    Calls Tryd.prog 6 #[.agg #[.int .i64 (b : Int), .int .i64 (s : Int)], .string pu, .string dig, .slice a n cap] w fun e w' => e = .returned (.bool true) ∧ Below w.heap.size w w' := by
  have dR : Hid (∀ W, Calls Tryd.prog 16 #[.agg #[.int .i64 (b : Int), .int .i64 (s : Int)]] W fun e w' => e = .returned (.bool true) ∧ Below W.heap.size W w') := fun W => refvalid_t _ _ (by rw [okZ_nat]; exact ho) W
  have dM : Hid (∀ W, Calls Tryd.prog 27 #[.agg #[.int .i64 (b : Int), .int .i64 (s : Int)]] W fun e w' => e = .returned (.bool true) ∧ Below W.heap.size W w') := fun W => hs ▸ refsmall_any _ _ W
  obtain ⟨xs, hxs⟩ : ∃ xs, Hid (ofStr dig = xs) := ⟨_, rfl⟩
  obtain ⟨K, hK⟩ : ∃ K, Hid (Ot.rcv b s (Ot.dgs b s xs) ss = K) := ⟨_, rfl⟩
  obtain ⟨v, hv⟩ : ∃ v : Bool, Hid ((pu.toList == K.toList) = v) := ⟨_, rfl⟩
  have hvk : Hid (v = true ↔ Ot.rcv b s (Ot.dgs b s xs) ss = pu) := by
    show _ ↔ _
    rw [hK.out]
    by_cases h : pu = K
    · subst h; rw [← hv.out]; simp
    · rw [← hv.out, (str_bne h).2]; simp; exact fun e => h e.symm
  have t1 : (K.toList == K.toList) = true := by simp
  have t2 : (pu.toList == K.toList) = v := hv.out
  have hss : Hid (ss.length = Ot.tot b s) := by show _ = _; rw [← hR.len]; exact hp.2
  have hall : Hid (∀ i, i < ss.length → (ss.getD i ByteArray.empty).size = 32) := fun i hi => hp.1 i (by have := hR.len; omega)
  have dP : Hid (∀ W, Calls Tryd.prog 13 #[.agg #[.int .i64 (b : Int), .int .i64 (s : Int)]] W fun e w' => e = .returned (.agg #[.int .i64 (b : Int), .int .i64 (s : Int)]) ∧ Below W.heap.size W w') := fun W => params_any _ _ W
  have dK : Hid (∀ W, LaidH W → Strs W a ss → Calls Tryd.prog 33 #[.agg #[.int .i64 (b : Int), .int .i64 (s : Int)], .string dig, .slice a n cap] W fun e w' => e = .returned (.tuple #[.string K, .int .i64 0]) ∧ Below W.heap.size W w') := fun W hW hS => hK.out ▸ recover_ok b s ho dig xs hxs hd a n cap ss hR.len hss hall W hW hS
  have dV : Hid (∀ W, LaidH W → Strs W a ss → Calls Tryd.prog 34 #[.agg #[.int .i64 (b : Int), .int .i64 (s : Int)], .string pu, .string dig, .slice a n cap] W fun e w' => e = .returned (.bool v) ∧ Below W.heap.size W w') := fun W hW hS => verify_ok b s ho dig xs hxs hd a n cap ss hR.len hss hall pu v hvk W hW hS
  have dT : Hid (∀ W, Strs W a ss → Calls Tryd.prog 35 #[.agg #[.int .i64 (b : Int), .int .i64 (s : Int)], .slice a n cap] W fun e w' => e = .returned (.bool true) ∧ Below W.heap.size W w') := fun W hS => refparts_any b s ho a n cap ss hR.len (by omega) true (hidIt ⟨fun _ => hp, fun _ => rfl⟩) W hS
  have dG : Hid (∀ W, Strs W a ss → Calls Tryd.prog 36 #[.agg #[.int .i64 (b : Int), .int .i64 (s : Int)], .string dig, .slice a n cap] W fun e w' => e = .returned (.string K) ∧ Below W.heap.size W w') := fun W hS => hK.out ▸ refrecover_any b s ho dig xs hxs hd a n cap ss hR.len hp.2 hp.1 W hS
  have p0 := rs_new w (b : Int) (s : Int)
  have e0 := p0.c0
  have e1 := p0.c1
  have L0 := hL.below p0.bel hL.two
  have hS_0 := hidIt (hR.at'.below p0.bel)
  clear ho hs hR hp hss hall hvk hv hK hxs
  go_enter Tryd.func6, Tryd.ntmps6
  go_wp2_with (fail)
  refine (awake_any _ L0).mono ?_
  rintro e w1 ⟨rfl, hb1⟩
  have p_1 := p0.next hb1
  have hS_1 := hidIt (hS_0.out.below hb1)
  have L_1 := hL.below p_1.bel hL.two
  clear hb1 p0 hS_0 L0 e0 e1
  have e0 := p_1.c0
  have e1 := p_1.c1
  go_wp2_with (fail)
  refine (dR.out _).mono ?_
  rintro e w2 ⟨rfl, hb2⟩
  have p_2 := p_1.next hb2
  have hS_2 := hidIt (hS_1.out.below hb2)
  have L_2 := hL.below p_2.bel hL.two
  clear hb2 p_1 hS_1 L_1 e0 e1
  have e0 := p_2.c0
  have e1 := p_2.c1
  go_wp2_with (fail)
  refine (dM.out _).mono ?_
  rintro e w3 ⟨rfl, hb3⟩
  have p_3 := p_2.next hb3
  have hS_3 := hidIt (hS_2.out.below hb3)
  have L_3 := hL.below p_3.bel hL.two
  clear hb3 p_2 hS_2 L_2 e0 e1
  have e0 := p_3.c0
  have e1 := p_3.c1
  go_wp2_with (fail)
  refine (dP.out _).mono ?_
  rintro e w4 ⟨rfl, hb4⟩
  have p_4 := p_3.next hb4
  have hS_4 := hidIt (hS_3.out.below hb4)
  have L_4 := hL.below p_4.bel hL.two
  clear hb4 p_3 hS_3 L_3 e0 e1
  have e0 := p_4.c0
  have e1 := p_4.c1
  go_wp2_with (fail)
  refine (dK.out _ L_4 hS_4.out).mono ?_
  rintro e w5 ⟨rfl, hb5⟩
  have p_5 := p_4.next hb5
  have hS_5 := hidIt (hS_4.out.below hb5)
  have L_5 := hL.below p_5.bel hL.two
  clear hb5 p_4 hS_4 L_4 e0 e1
  have e0 := p_5.c0
  have e1 := p_5.c1
  go_wp2_with (fail)
  refine (dP.out _).mono ?_
  rintro e w6 ⟨rfl, hb6⟩
  have p_6 := p_5.next hb6
  have hS_6 := hidIt (hS_5.out.below hb6)
  have L_6 := hL.below p_6.bel hL.two
  clear hb6 p_5 hS_5 L_5 e0 e1
  have e0 := p_6.c0
  have e1 := p_6.c1
  go_wp2_with (fail)
  refine (dV.out _ L_6 hS_6.out).mono ?_
  rintro e w7 ⟨rfl, hb7⟩
  have p_7 := p_6.next hb7
  have hS_7 := hidIt (hS_6.out.below hb7)
  have L_7 := hL.below p_7.bel hL.two
  clear hb7 p_6 hS_6 L_6 e0 e1
  have e0 := p_7.c0
  have e1 := p_7.c1
  go_wp2_with (fail)
  refine (dR.out _).mono ?_
  rintro e w8 ⟨rfl, hb8⟩
  have p_8 := p_7.next hb8
  have hS_8 := hidIt (hS_7.out.below hb8)
  have L_8 := hL.below p_8.bel hL.two
  clear hb8 p_7 hS_7 L_7 e0 e1
  have e0 := p_8.c0
  have e1 := p_8.c1
  go_wp2_with (fail)
  refine (dT.out _ hS_8.out).mono ?_
  rintro e w9 ⟨rfl, hb9⟩
  have p_9 := p_8.next hb9
  have hS_9 := hidIt (hS_8.out.below hb9)
  have L_9 := hL.below p_9.bel hL.two
  clear hb9 p_8 hS_8 L_8 e0 e1
  have e0 := p_9.c0
  have e1 := p_9.c1
  go_wp2_with (fail)
  refine (dG.out _ hS_9.out).mono ?_
  rintro e w10 ⟨rfl, hb10⟩
  have p_10 := p_9.next hb10
  have hS_10 := hidIt (hS_9.out.below hb10)
  have L_10 := hL.below p_10.bel hL.two
  clear hb10 p_9 hS_9 L_9 e0 e1
  have e0 := p_10.c0
  have e1 := p_10.c1
  cases v
  all_goals
    have HB := hidIt p_10.bel
    clear p_10 L_10 dR dM dP dK dV dT dG
    go_wp2_with (fail)
    go_ret
    exact ⟨rfl, HB.out⟩
theorem orec_walk (a : Option Addr) (n cap : Nat) (ss : List ByteArray) (b s : Int) (pu dig : ByteArray) (w : World) (hL : LaidH w) (_h0 : (Lit.int .i64 b).wf = true) (_h1 : (Lit.int .i64 s).wf = true) (_h2 : pu.size ≤ maxLen) (_h3 : dig.size ≤ maxLen) (hR : RdS w a n cap ss) (_h4 : cap ≤ maxLen) :
    Calls Tryd.prog 6 #[.agg #[.int .i64 b, .int .i64 s], .string pu, .string dig, .slice a n cap] w fun e w' => e = .returned (.bool true) ∧ Below w.heap.size w w' := by
  by_cases ho : okZ b s = true
  · obtain ⟨b', s', rfl, rfl, ho'⟩ := okZ_of ho
    by_cases hs : smB (b' : Int) (s' : Int) = true
    · by_cases h300 : 300 < (n : Int)
      · exact orec_c b' s' pu dig a n cap ss ho' hs h300 w hL hR
      · by_cases hd : (dig.size : Int) = (s' : Int)
        · by_cases hp : (∀ i, i < n → (ss.getD i ByteArray.empty).size = 32) ∧ n = Ot.tot b' s'
          · exact orec_f b' s' pu dig a n cap ss ho' hs h300 hd hp w hL hR
          · exact orec_e b' s' pu dig a n cap ss ho' hs h300 hd hp w hL hR
        · exact orec_d b' s' pu dig a n cap ss ho' hs h300 hd w hL hR
    · exact orec_b b' s' pu dig a n cap ss ho' (by simpa using hs) w hL hR
  · by_cases h300 : 300 < (n : Int)
    · exact orec_a1 b s pu dig a n cap ss (by simpa using ho) h300 w hL hR
    · exact orec_a2 b s pu dig a n cap ss (by simpa using ho) h300 w hL hR
end Go.Proofs.YtegfbmekpmdcaaaDoor
