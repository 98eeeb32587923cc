import Derived.Test.YtegfbmekpmdcaaaDoorOr5
namespace Go.Proofs.YtegfbmekpmdcaaaDoor
open Go.RowKit
set_option maxRecDepth 100000 in
set_option maxHeartbeats 2000000 in
theorem osigs_a (b s : Int) (sd dig : ByteArray) (ho : okZ b s = false) (w : World) (hL : LaidH w) :
    Calls Tryd.prog 5 #[.agg #[.int .i64 b, .int .i64 s], .string sd, .string dig] w fun e w' => e = .returned (.bool true) ∧ Below w.heap.size w w' := by
  have t0 : (({ data := #[] } : ByteArray).toList == ({ data := #[] } : ByteArray).toList) = true := by simp
  have dR : Hid (∀ W, Calls Tryd.prog 16 #[.agg #[.int .i64 b, .int .i64 s]] W fun e w' => e = .returned (.bool false) ∧ Below W.heap.size W w') := fun W => refvalid_f b s ho W
  have dP : Hid (∀ W, Calls Tryd.prog 13 #[.agg #[.int .i64 b, .int .i64 s]] W fun e w' => e = .returned (.agg #[.int .i64 b, .int .i64 s]) ∧ Below W.heap.size W w') := fun W => params_any b s W
  have dU : Hid (∀ W, Calls Tryd.prog 28 #[.agg #[.int .i64 b, .int .i64 s], .string sd] W fun e w' => e = .returned (.tuple #[.string ⟨#[]⟩, .int .i64 1]) ∧ Below W.heap.size W w') := fun W => public_no b s sd (.inl ho) W
  have dS : Hid (∀ W, Calls Tryd.prog 29 #[.agg #[.int .i64 b, .int .i64 s], .string sd, .string dig] W fun e w' => e = .returned (.tuple #[.slice none 0 0, .int .i64 1]) ∧ Below W.heap.size W w') := fun W => sign_no b s sd dig (.inl ho) W
  have p0 := rs_new w b s
  have e0 := p0.c0
  have e1 := p0.c1
  have L0 := hL.below p0.bel hL.two
  clear ho
  go_enter Tryd.func5, Tryd.ntmps5
  go_wp2_with (fail)
  refine (awake_any _ L0).mono ?_
  rintro e w1 ⟨rfl, hb1⟩
  have p_1 := p0.next hb1
  have L_1 := hL.below p_1.bel hL.two
  clear hb1 p0 L0 e0 e1
  have e0 := p_1.c0
  have e1 := p_1.c1
  go_wp2_with (fail)
  refine (dR.out _).mono ?_
  rintro e w2 ⟨rfl, hb2⟩
  have p_2 := p_1.next hb2
  have L_2 := hL.below p_2.bel hL.two
  clear hb2 p_1 L_1 e0 e1
  have e0 := p_2.c0
  have e1 := p_2.c1
  go_wp2_with (fail)
  refine (dP.out _).mono ?_
  rintro e w3 ⟨rfl, hb3⟩
  have p_3 := p_2.next hb3
  have L_3 := hL.below p_3.bel hL.two
  clear hb3 p_2 L_2 e0 e1
  have e0 := p_3.c0
  have e1 := p_3.c1
  go_wp2_with (fail)
  refine (dU.out _).mono ?_
  rintro e w4 ⟨rfl, hb4⟩
  have p_4 := p_3.next hb4
  have L_4 := hL.below p_4.bel hL.two
  clear hb4 p_3 L_3 e0 e1
  have e0 := p_4.c0
  have e1 := p_4.c1
  go_wp2_with (fail)
  refine (dP.out _).mono ?_
  rintro e w5 ⟨rfl, hb5⟩
  have p_5 := p_4.next hb5
  have L_5 := hL.below p_5.bel hL.two
  clear hb5 p_4 L_4 e0 e1
  have e0 := p_5.c0
  have e1 := p_5.c1
  go_wp2_with (fail)
  refine (dS.out _).mono ?_
  rintro e w6 ⟨rfl, hb6⟩
  have p_6 := p_5.next hb6
  have L_6 := hL.below p_6.bel hL.two
  clear hb6 p_5 L_5 e0 e1
  have e0 := p_6.c0
  have e1 := p_6.c1
  go_wp2_with (fail)
  refine (dR.out _).mono ?_
  rintro e w7 ⟨rfl, hb7⟩
  have p_7 := p_6.next hb7
  have L_7 := hL.below p_7.bel hL.two
  clear hb7 p_6 L_6 e0 e1
  have e0 := p_7.c0
  have e1 := p_7.c1
  have HB := hidIt p_7.bel
  clear p_7 L_7 dR dP dU dS
  go_wp2_with (fail)
  go_ret
  exact ⟨rfl, HB.out⟩
set_option maxRecDepth 100000 in
set_option maxHeartbeats 2000000 in
theorem osigs_b (b s : Nat) (sd dig : ByteArray) (ho : Ot.okB b s = true) (hs : smB (b : Int) (s : Int) = false) (w : World) (hL : LaidH w) :
    Calls Tryd.prog 5 #[.agg #[.int .i64 (b : Int), .int .i64 (s : Int)], .string sd, .string dig] w fun e w' => e = .returned (.bool true) ∧ Below w.heap.size w w' := by
  have dR : Hid (∀ W, Calls Tryd.prog 16 #[.agg #[.int .i64 (b : Int), .int .i64 (s : Int)]] W fun e w' => e = .returned (.bool true) ∧ Below W.heap.size W w') := fun W => refvalid_t _ _ (by rw [okZ_nat]; exact ho) W
  have dM : Hid (∀ W, Calls Tryd.prog 27 #[.agg #[.int .i64 (b : Int), .int .i64 (s : Int)]] W fun e w' => e = .returned (.bool false) ∧ Below W.heap.size W w') := fun W => hs ▸ refsmall_any _ _ W
  have p0 := rs_new w (b : Int) (s : Int)
  have e0 := p0.c0
  have e1 := p0.c1
  have L0 := hL.below p0.bel hL.two
  clear ho hs
  go_enter Tryd.func5, Tryd.ntmps5
  go_wp2_with (fail)
  refine (awake_any _ L0).mono ?_
  rintro e w1 ⟨rfl, hb1⟩
  have p_1 := p0.next hb1
  have L_1 := hL.below p_1.bel hL.two
  clear hb1 p0 L0 e0 e1
  have e0 := p_1.c0
  have e1 := p_1.c1
  go_wp2_with (fail)
  refine (dR.out _).mono ?_
  rintro e w2 ⟨rfl, hb2⟩
  have p_2 := p_1.next hb2
  have L_2 := hL.below p_2.bel hL.two
  clear hb2 p_1 L_1 e0 e1
  have e0 := p_2.c0
  have e1 := p_2.c1
  go_wp2_with (fail)
  refine (dM.out _).mono ?_
  rintro e w3 ⟨rfl, hb3⟩
  have p_3 := p_2.next hb3
  have L_3 := hL.below p_3.bel hL.two
  clear hb3 p_2 L_2 e0 e1
  have e0 := p_3.c0
  have e1 := p_3.c1
  have HB := hidIt p_3.bel
  clear p_3 L_3 dR dM
  go_wp2_with (fail)
  go_ret
  exact ⟨rfl, HB.out⟩
set_option maxRecDepth 100000 in
set_option maxHeartbeats 2000000 in
theorem osigs_c (b s : Nat) (sd dig : ByteArray) (ho : Ot.okB b s = true) (hs : smB (b : Int) (s : Int) = true) (h32 : ¬ (sd.size : Int) = 32) (w : World) (hL : LaidH w) :
    Calls Tryd.prog 5 #[.agg #[.int .i64 (b : Int), .int .i64 (s : Int)], .string sd, .string dig] w fun e w' => e = .returned (.bool true) ∧ Below w.heap.size w w' := by
  have t0 : (({ data := #[] } : ByteArray).toList == ({ data := #[] } : ByteArray).toList) = true := by simp
  have dR : Hid (∀ W, Calls Tryd.prog 16 #[.agg #[.int .i64 (b : Int), .int .i64 (s : Int)]] W fun e w' => e = .returned (.bool true) ∧ Below W.heap.size W w') := fun W => refvalid_t _ _ (by rw [okZ_nat]; exact ho) W
  have dM : Hid (∀ W, Calls Tryd.prog 27 #[.agg #[.int .i64 (b : Int), .int .i64 (s : Int)]] W fun e w' => e = .returned (.bool true) ∧ Below W.heap.size W w') := fun W => hs ▸ refsmall_any _ _ W
  have dP : Hid (∀ W, Calls Tryd.prog 13 #[.agg #[.int .i64 (b : Int), .int .i64 (s : Int)]] W fun e w' => e = .returned (.agg #[.int .i64 (b : Int), .int .i64 (s : Int)]) ∧ Below W.heap.size W w') := fun W => params_any _ _ W
  have dU : Hid (∀ W, Calls Tryd.prog 28 #[.agg #[.int .i64 (b : Int), .int .i64 (s : Int)], .string sd] W fun e w' => e = .returned (.tuple #[.string ⟨#[]⟩, .int .i64 1]) ∧ Below W.heap.size W w') := fun W => public_no _ _ sd (.inr h32) W
  have dS : Hid (∀ W, Calls Tryd.prog 29 #[.agg #[.int .i64 (b : Int), .int .i64 (s : Int)], .string sd, .string dig] W fun e w' => e = .returned (.tuple #[.slice none 0 0, .int .i64 1]) ∧ Below W.heap.size W w') := fun W => sign_no _ _ sd dig (.inr (.inr h32)) W
  have p0 := rs_new w (b : Int) (s : Int)
  have e0 := p0.c0
  have e1 := p0.c1
  have L0 := hL.below p0.bel hL.two
  clear ho hs
  go_enter Tryd.func5, Tryd.ntmps5
  go_wp2_with (fail)
  refine (awake_any _ L0).mono ?_
  rintro e w1 ⟨rfl, hb1⟩
  have p_1 := p0.next hb1
  have L_1 := hL.below p_1.bel hL.two
  clear hb1 p0 L0 e0 e1
  have e0 := p_1.c0
  have e1 := p_1.c1
  go_wp2_with (fail)
  refine (dR.out _).mono ?_
  rintro e w2 ⟨rfl, hb2⟩
  have p_2 := p_1.next hb2
  have L_2 := hL.below p_2.bel hL.two
  clear hb2 p_1 L_1 e0 e1
  have e0 := p_2.c0
  have e1 := p_2.c1
  go_wp2_with (fail)
  refine (dM.out _).mono ?_
  rintro e w3 ⟨rfl, hb3⟩
  have p_3 := p_2.next hb3
  have L_3 := hL.below p_3.bel hL.two
  clear hb3 p_2 L_2 e0 e1
  have e0 := p_3.c0
  have e1 := p_3.c1
  go_wp2_with (fail)
  refine (dP.out _).mono ?_
  rintro e w4 ⟨rfl, hb4⟩
  have p_4 := p_3.next hb4
  have L_4 := hL.below p_4.bel hL.two
  clear hb4 p_3 L_3 e0 e1
  have e0 := p_4.c0
  have e1 := p_4.c1
  go_wp2_with (fail)
  refine (dU.out _).mono ?_
  rintro e w5 ⟨rfl, hb5⟩
  have p_5 := p_4.next hb5
  have L_5 := hL.below p_5.bel hL.two
  clear hb5 p_4 L_4 e0 e1
  have e0 := p_5.c0
  have e1 := p_5.c1
  go_wp2_with (fail)
  refine (dP.out _).mono ?_
  rintro e w6 ⟨rfl, hb6⟩
  have p_6 := p_5.next hb6
  have L_6 := hL.below p_6.bel hL.two
  clear hb6 p_5 L_5 e0 e1
  have e0 := p_6.c0
  have e1 := p_6.c1
  go_wp2_with (fail)
  refine (dS.out _).mono ?_
  rintro e w7 ⟨rfl, hb7⟩
  have p_7 := p_6.next hb7
  have L_7 := hL.below p_7.bel hL.two
  clear hb7 p_6 L_6 e0 e1
  have e0 := p_7.c0
  have e1 := p_7.c1
  go_wp2_with (fail)
  refine (dR.out _).mono ?_
  rintro e w8 ⟨rfl, hb8⟩
  have p_8 := p_7.next hb8
  have L_8 := hL.below p_8.bel hL.two
  clear hb8 p_7 L_7 e0 e1
  have e0 := p_8.c0
  have e1 := p_8.c1
  have HB := hidIt p_8.bel
  clear p_8 L_8 dR dM dP dU dS
  go_wp2_with (fail)
  go_ret
  exact ⟨rfl, HB.out⟩
set_option maxRecDepth 100000 in
set_option maxHeartbeats 2000000 in
theorem osigs_d (b s : Nat) (sd dig : ByteArray) (ho : Ot.okB b s = true) (hs : smB (b : Int) (s : Int) = true) (h32 : (sd.size : Int) = 32) (hd : ¬ (dig.size : Int) = (s : Int)) (w : World) (hL : LaidH w) :
    Calls Tryd.prog 5 #[.agg #[.int .i64 (b : Int), .int .i64 (s : Int)], .string sd, .string dig] w fun e w' => e = .returned (.bool true) ∧ Below w.heap.size w w' := by
  have dR : Hid (∀ W, Calls Tryd.prog 16 #[.agg #[.int .i64 (b : Int), .int .i64 (s : Int)]] W fun e w' => e = .returned (.bool true) ∧ Below W.heap.size W w') := fun W => refvalid_t _ _ (by rw [okZ_nat]; exact ho) W
  have dM : Hid (∀ W, Calls Tryd.prog 27 #[.agg #[.int .i64 (b : Int), .int .i64 (s : Int)]] W fun e w' => e = .returned (.bool true) ∧ Below W.heap.size W w') := fun W => hs ▸ refsmall_any _ _ W
  have dP : Hid (∀ W, Calls Tryd.prog 13 #[.agg #[.int .i64 (b : Int), .int .i64 (s : Int)]] W fun e w' => e = .returned (.agg #[.int .i64 (b : Int), .int .i64 (s : Int)]) ∧ Below W.heap.size W w') := fun W => params_any _ _ W
  obtain ⟨ks, hks⟩ : ∃ ks, Hid (ofStr sd = ks) := ⟨_, rfl⟩
  have hkl : ks.length ≤ 1200 := by rw [← hks.out, ofStr_len]; omega
  obtain ⟨K, hK⟩ : ∃ K, Hid (Ot.pub b s ks = K) := ⟨_, rfl⟩
  have t1 : (K.toList == K.toList) = true := by simp
  have dU : Hid (∀ W, LaidH W → Calls Tryd.prog 28 #[.agg #[.int .i64 (b : Int), .int .i64 (s : Int)], .string sd] W fun e w' => e = .returned (.tuple #[.string K, .int .i64 0]) ∧ Below W.heap.size W w') := fun W hW => hK.out ▸ public_ok b s ho sd ks hks h32 W hW
  have dV : Hid (∀ W, Calls Tryd.prog 30 #[.agg #[.int .i64 (b : Int), .int .i64 (s : Int)], .string sd] W fun e w' => e = .returned (.string K) ∧ Below W.heap.size W w') := fun W => hK.out ▸ refpublic_any b s ho sd ks hks hkl W
  have dS : Hid (∀ W, Calls Tryd.prog 29 #[.agg #[.int .i64 (b : Int), .int .i64 (s : Int)], .string sd, .string dig] W fun e w' => e = .returned (.tuple #[.slice none 0 0, .int .i64 1]) ∧ Below W.heap.size W w') := fun W => sign_no _ _ sd dig (.inr (.inl hd)) W
  have p0 := rs_new w (b : Int) (s : Int)
  have e0 := p0.c0
  have e1 := p0.c1
  have L0 := hL.below p0.bel hL.two
  clear ho hs hks hK hkl
  go_enter Tryd.func5, Tryd.ntmps5
  go_wp2_with (fail)
  refine (awake_any _ L0).mono ?_
  rintro e w1 ⟨rfl, hb1⟩
  have p_1 := p0.next hb1
  have L_1 := hL.below p_1.bel hL.two
  clear hb1 p0 L0 e0 e1
  have e0 := p_1.c0
  have e1 := p_1.c1
  go_wp2_with (fail)
  refine (dR.out _).mono ?_
  rintro e w2 ⟨rfl, hb2⟩
  have p_2 := p_1.next hb2
  have L_2 := hL.below p_2.bel hL.two
  clear hb2 p_1 L_1 e0 e1
  have e0 := p_2.c0
  have e1 := p_2.c1
  go_wp2_with (fail)
  refine (dM.out _).mono ?_
  rintro e w3 ⟨rfl, hb3⟩
  have p_3 := p_2.next hb3
  have L_3 := hL.below p_3.bel hL.two
  clear hb3 p_2 L_2 e0 e1
  have e0 := p_3.c0
  have e1 := p_3.c1
  go_wp2_with (fail)
  refine (dP.out _).mono ?_
  rintro e w4 ⟨rfl, hb4⟩
  have p_4 := p_3.next hb4
  have L_4 := hL.below p_4.bel hL.two
  clear hb4 p_3 L_3 e0 e1
  have e0 := p_4.c0
  have e1 := p_4.c1
  go_wp2_with (fail)
  refine (dU.out _ L_4).mono ?_
  rintro e w5 ⟨rfl, hb5⟩
  have p_5 := p_4.next hb5
  have L_5 := hL.below p_5.bel hL.two
  clear hb5 p_4 L_4 e0 e1
  have e0 := p_5.c0
  have e1 := p_5.c1
  go_wp2_with (fail)
  refine (dP.out _).mono ?_
  rintro e w6 ⟨rfl, hb6⟩
  have p_6 := p_5.next hb6
  have L_6 := hL.below p_6.bel hL.two
  clear hb6 p_5 L_5 e0 e1
  have e0 := p_6.c0
  have e1 := p_6.c1
  go_wp2_with (fail)
  refine (dS.out _).mono ?_
  rintro e w7 ⟨rfl, hb7⟩
  have p_7 := p_6.next hb7
  have L_7 := hL.below p_7.bel hL.two
  clear hb7 p_6 L_6 e0 e1
  have e0 := p_7.c0
  have e1 := p_7.c1
  go_wp2_with (fail)
  refine (dR.out _).mono ?_
  rintro e w8 ⟨rfl, hb8⟩
  have p_8 := p_7.next hb8
  have L_8 := hL.below p_8.bel hL.two
  clear hb8 p_7 L_7 e0 e1
  have e0 := p_8.c0
  have e1 := p_8.c1
  go_wp2_with (fail)
  refine (dV.out _).mono ?_
  rintro e w9 ⟨rfl, hb9⟩
  have p_9 := p_8.next hb9
  have L_9 := hL.below p_9.bel hL.two
  clear hb9 p_8 L_8 e0 e1
  have e0 := p_9.c0
  have e1 := p_9.c1
  have HB := hidIt p_9.bel
  clear p_9 L_9 dR dM dP dU dS dV
  go_wp2_with (fail)
  go_ret
  exact ⟨rfl, HB.out⟩
set_option maxRecDepth 100000 in
set_option maxHeartbeats 2000000 in
theorem osigs_e (b s : Nat) (sd dig : ByteArray) (ho : Ot.okB b s = true) (hs : smB (b : Int) (s : Int) = true) (h32 : (sd.size : Int) = 32) (hd : (dig.size : Int) = (s : Int)) (w : World) (hL : LaidH w) :
    Calls Tryd.prog 5 #[.agg #[.int .i64 (b : Int), .int .i64 (s : Int)], .string sd, .string dig] w fun e w' => e = .returned (.bool true) ∧ Below w.heap.size w w' := by
  have dR : Hid (∀ W, Calls Tryd.prog 16 #[.agg #[.int .i64 (b : Int), .int .i64 (s : Int)]] W fun e w' => e = .returned (.bool true) ∧ Below W.heap.size W w') := fun W => refvalid_t _ _ (by rw [okZ_nat]; exact ho) W
  have dM : Hid (∀ W, Calls Tryd.prog 27 #[.agg #[.int .i64 (b : Int), .int .i64 (s : Int)]] W fun e w' => e = .returned (.bool true) ∧ Below W.heap.size W w') := fun W => hs ▸ refsmall_any _ _ W
  have dP : Hid (∀ W, Calls Tryd.prog 13 #[.agg #[.int .i64 (b : Int), .int .i64 (s : Int)]] W fun e w' => e = .returned (.agg #[.int .i64 (b : Int), .int .i64 (s : Int)]) ∧ Below W.heap.size W w') := fun W => params_any _ _ W
  obtain ⟨ks, hks⟩ : ∃ ks, Hid (ofStr sd = ks) := ⟨_, rfl⟩
  have hkl : ks.length ≤ 1200 := by rw [← hks.out, ofStr_len]; omega
  obtain ⟨K, hK⟩ : ∃ K, Hid (Ot.pub b s ks = K) := ⟨_, rfl⟩
  have t1 : (K.toList == K.toList) = true := by simp
  have dU : Hid (∀ W, LaidH W → Calls Tryd.prog 28 #[.agg #[.int .i64 (b : Int), .int .i64 (s : Int)], .string sd] W fun e w' => e = .returned (.tuple #[.string K, .int .i64 0]) ∧ Below W.heap.size W w') := fun W hW => hK.out ▸ public_ok b s ho sd ks hks h32 W hW
  have dV : Hid (∀ W, Calls Tryd.prog 30 #[.agg #[.int .i64 (b : Int), .int .i64 (s : Int)], .string sd] W fun e w' => e = .returned (.string K) ∧ Below W.heap.size W w') := fun W => hK.out ▸ refpublic_any b s ho sd ks hks hkl W
  obtain ⟨xs, hxs⟩ : ∃ xs, Hid (ofStr dig = xs) := ⟨_, rfl⟩
  obtain ⟨n, hn⟩ : ∃ n, Hid (Ot.tot b s = n) := ⟨_, rfl⟩
  have hn9 := (Ot.tot_bd b s ho).2
  rw [hn.out] at hn9
  obtain ⟨P, hP⟩ : ∃ P : Nat → ByteArray, Hid ((fun i => Ot.vl ks i (Ot.dgs b s xs i)) = P) := ⟨_, rfl⟩
  obtain ⟨L, hLs⟩ : ∃ L, Hid ((List.range n).map P = L) := ⟨_, rfl⟩
  have hLl : n = L.length := by rw [← hLs.out]; simp
  have dS : Hid (∀ W, LaidH W → Calls Tryd.prog 29 #[.agg #[.int .i64 (b : Int), .int .i64 (s : Int)], .string sd, .string dig] W fun e w' => SigOk W e w' P n ∧ Below W.heap.size W w') := fun W hW => by
    have := sign_ok b s ho sd ks hks h32 dig xs hxs hd W hW
    rwa [hn.out, hP.out] at this
  have dT : Hid (∀ W, Calls Tryd.prog 32 #[.agg #[.int .i64 (b : Int), .int .i64 (s : Int)], .string sd, .string dig] W fun e w' => RSt e w' L n ∧ Below W.heap.size W w') := fun W => by
    have := refsign_any b s ho sd ks hks hkl dig xs hxs hd W
    rwa [hn.out, hP.out, hLs.out] at this
  have dE : Hid (∀ W a c cc, Strs W a L → Strs W c L → Calls Tryd.prog 31 #[.slice a n n, .slice c n cc] W fun e w' => e = .returned (.bool true) ∧ Below W.heap.size W w') := fun W a c cc h1 h2 => equal_any a c n n n cc L L hLl hLl (by omega) (by omega) true (hidIt (by simp)) W h1 h2
  have p0 := rs_new w (b : Int) (s : Int)
  have e0 := p0.c0
  have e1 := p0.c1
  have L0 := hL.below p0.bel hL.two
  clear ho hs hks hK hkl hxs hn hP hLl
  go_enter Tryd.func5, Tryd.ntmps5
  go_wp2_with (fail)
  refine (awake_any _ L0).mono ?_
  rintro e w1 ⟨rfl, hb1⟩
  have p_1 := p0.next hb1
  have L_1 := hL.below p_1.bel hL.two
  clear hb1 p0 L0 e0 e1
  have e0 := p_1.c0
  have e1 := p_1.c1
  go_wp2_with (fail)
  refine (dR.out _).mono ?_
  rintro e w2 ⟨rfl, hb2⟩
  have p_2 := p_1.next hb2
  have L_2 := hL.below p_2.bel hL.two
  clear hb2 p_1 L_1 e0 e1
  have e0 := p_2.c0
  have e1 := p_2.c1
  go_wp2_with (fail)
  refine (dM.out _).mono ?_
  rintro e w3 ⟨rfl, hb3⟩
  have p_3 := p_2.next hb3
  have L_3 := hL.below p_3.bel hL.two
  clear hb3 p_2 L_2 e0 e1
  have e0 := p_3.c0
  have e1 := p_3.c1
  go_wp2_with (fail)
  refine (dP.out _).mono ?_
  rintro e w4 ⟨rfl, hb4⟩
  have p_4 := p_3.next hb4
  have L_4 := hL.below p_4.bel hL.two
  clear hb4 p_3 L_3 e0 e1
  have e0 := p_4.c0
  have e1 := p_4.c1
  go_wp2_with (fail)
  refine (dU.out _ L_4).mono ?_
  rintro e w5 ⟨rfl, hb5⟩
  have p_5 := p_4.next hb5
  have L_5 := hL.below p_5.bel hL.two
  clear hb5 p_4 L_4 e0 e1
  have e0 := p_5.c0
  have e1 := p_5.c1
  go_wp2_with (fail)
  refine (dP.out _).mono ?_
  rintro e w6 ⟨rfl, hb6⟩
  have p_6 := p_5.next hb6
  have L_6 := hL.below p_6.bel hL.two
  clear hb6 p_5 L_5 e0 e1
  have e0 := p_6.c0
  have e1 := p_6.c1
  go_wp2_with (fail)
  refine (dS.out _ L_6).mono ?_
  rintro e w7 ⟨⟨gs, hgs, rfl, hS⟩, hb7⟩
  have p_7 := p_6.next hb7
  have hS_7 := hidIt (hLs.out ▸ hS)
  have L_7 := hL.below p_7.bel hL.two
  clear hb7 p_6 L_6 e0 e1
  have e0 := p_7.c0
  have e1 := p_7.c1
  clear hgs hS
  go_wp2_with (fail)
  refine (dR.out _).mono ?_
  rintro e w8 ⟨rfl, hb8⟩
  have p_8 := p_7.next hb8
  have hS_8 := hidIt (hS_7.out.below hb8)
  have L_8 := hL.below p_8.bel hL.two
  clear hb8 p_7 hS_7 L_7 e0 e1
  have e0 := p_8.c0
  have e1 := p_8.c1
  go_wp2_with (fail)
  refine (dV.out _).mono ?_
  rintro e w9 ⟨rfl, hb9⟩
  have p_9 := p_8.next hb9
  have hS_9 := hidIt (hS_8.out.below hb9)
  have L_9 := hL.below p_9.bel hL.two
  clear hb9 p_8 hS_8 L_8 e0 e1
  have e0 := p_9.c0
  have e1 := p_9.c1
  go_wp2_with (fail)
  refine (dT.out _).mono ?_
  rintro e w10 ⟨⟨at2, ct, rfl, hT, hct⟩, hb10⟩
  have p_10 := p_9.next hb10
  have hS_10 := hidIt (hS_9.out.below hb10)
  have hT_10 := hidIt (hT)
  have L_10 := hL.below p_10.bel hL.two
  clear hb10 p_9 hS_9 L_9 e0 e1
  have e0 := p_10.c0
  have e1 := p_10.c1
  clear hT
  go_wp2_with (fail)
  refine (dE.out _ _ _ _ hS_10.out hT_10.out).mono ?_
  rintro e w11 ⟨rfl, hb11⟩
  have p_11 := p_10.next hb11
  have hS_11 := hidIt (hS_10.out.below hb11)
  have hT_11 := hidIt (hT_10.out.below hb11)
  have L_11 := hL.below p_11.bel hL.two
  clear hb11 p_10 hS_10 hT_10 L_10 e0 e1
  have e0 := p_11.c0
  have e1 := p_11.c1
  have HB := hidIt p_11.bel
  clear p_11 L_11 dR dM dP dU dS dV dT dE
  go_wp2_with (fail)
  go_ret
  exact ⟨rfl, HB.out⟩
theorem osigs_walk (b s : Int) (sd dig : ByteArray) (w : World) (hL : LaidH w) (_h0 : (Lit.int .i64 b).wf = true) (_h1 : (Lit.int .i64 s).wf = true) (_h2 : sd.size ≤ maxLen) (_h3 : dig.size ≤ maxLen) :
    Calls Tryd.prog 5 #[.agg #[.int .i64 b, .int .i64 s], .string sd, .string dig] w fun e w' => e = .returned (.bool true) ∧ Below w.heap.size w w' := by
  by_cases ho : okZ b s = true
  · obtain ⟨b', s', rfl, rfl, ho'⟩ := okZ_of ho
    by_cases hs : smB (b' : Int) (s' : Int) = true
    · by_cases h32 : (sd.size : Int) = 32
      · by_cases hd : (dig.size : Int) = (s' : Int)
        · exact osigs_e b' s' sd dig ho' hs h32 hd w hL
        · exact osigs_d b' s' sd dig ho' hs h32 hd w hL
      · exact osigs_c b' s' sd dig ho' hs h32 w hL
    · exact osigs_b b' s' sd dig ho' (by simpa using hs) w hL
  · exact osigs_a b s sd dig (by simpa using ho) w hL
end Go.Proofs.YtegfbmekpmdcaaaDoor
