import Derived.Test.YtegfbmekpmdcaaaDoorOr2
namespace Go.Proofs.YtegfbmekpmdcaaaDoor
open Go.RowKit
/-- two boxes of parameters -/
structure P2 (w : World) (G Q : Nat) (b s : Int) (W : World) : Prop where
  c0 : W.cell? ⟨G, 0, none⟩ = some (.int .i64 b)
  c1 : W.cell? ⟨G, 1, none⟩ = some (.int .i64 s)
  q0 : W.cell? ⟨Q, 0, none⟩ = some (.int .i64 b)
  q1 : W.cell? ⟨Q, 1, none⟩ = some (.int .i64 s)
  bel : Below w.heap.size w W
theorem P2.next {w W W' : World} {G Q : Nat} {b s : Int} (h : P2 w G Q b s W) (hb : Below W.heap.size W W') : P2 w G Q b s W' :=
  ⟨(hb.cell (p := ⟨G, 0, none⟩) (bytes_lt h.c0)).trans h.c0, (hb.cell (p := ⟨G, 1, none⟩) (bytes_lt h.c1)).trans h.c1, (hb.cell (p := ⟨Q, 0, none⟩) (bytes_lt h.q0)).trans h.q0, (hb.cell (p := ⟨Q, 1, none⟩) (bytes_lt h.q1)).trans h.q1, below_then h.bel hb⟩
theorem P2.drew {w W : World} {G Q : Nat} {b s : Int} (h : P2 w G Q b s W) : P2 w G Q b s W.drew := h.next (Below.refl _ _).drew
theorem P2.behind {w W W' : World} {G Q : Nat} {b s : Int} (hb : Below W.heap.size W W') (h : P2 w G Q b s W) : P2 w G Q b s W' := h.next hb
theorem P2.all {w W : World} {G Q : Nat} {b s : Int} (h : P2 w G Q b s W) : P2 w G Q b s W ∧ W.cell? ⟨G, 0, none⟩ = some (.int .i64 b) ∧ W.cell? ⟨G, 1, none⟩ = some (.int .i64 s) ∧ W.cell? ⟨Q, 0, none⟩ = some (.int .i64 b) ∧ W.cell? ⟨Q, 1, none⟩ = some (.int .i64 s) := ⟨h, h.c0, h.c1, h.q0, h.q1⟩
theorem p2_new {w W : World} {G : Nat} {b s : Int} (h : PS w G b s W) (t : TypeId) : P2 w G W.heap.size b s (W.alloc (.cells #[.int .i64 b, .int .i64 s] t)) :=
  ⟨(h.new _).c0, (h.new _).c1, (pb_new W b s t).1, (pb_new W b s t).2, (h.new _).bel⟩
set_option maxRecDepth 100000 in
set_option maxHeartbeats 2000000 in
theorem odigits_bad (b s : Int) (x y : ByteArray) (ho : okZ b s = false) (w : World) (hL : LaidH w) :
    Calls Tryd.prog 3 #[.agg #[.int .i64 b, .int .i64 s], .string x, .string y] w fun e w' => e = .returned (.bool true) ∧ Below w.heap.size w w' := by
  have dP : Hid (∀ W, Calls Tryd.prog 13 #[.agg #[.int .i64 b, .int .i64 s]] W fun e w' => e = .returned (.agg #[.int .i64 b, .int .i64 s]) ∧ Below W.heap.size W w') := fun W => params_any _ _ W
  have dD : Hid (∀ W, Calls Tryd.prog 14 #[.agg #[.int .i64 b, .int .i64 s], .string x] W fun e w' => e = .returned (.tuple #[.slice none 0 0, .int .i64 1]) ∧ Below W.heap.size W w') := fun W => digits_no b s x (.inl ho) W
  have dC : Hid (∀ W, Calls Tryd.prog 15 #[.agg #[.int .i64 b, .int .i64 s], .string x, .string y] W fun e w' => e = .returned (.tuple #[.bool false, .int .i64 1]) ∧ Below W.heap.size W w') := fun W => covers_no1 b s x y (.inl ho) W
  have dR : Hid (∀ W, Calls Tryd.prog 16 #[.agg #[.int .i64 b, .int .i64 s]] W fun e w' => e = .returned (.bool false) ∧ Below W.heap.size W w') := fun W => refvalid_f b s ho W
  have dV : Hid (∀ W, Calls Tryd.prog 17 #[.agg #[.int .i64 b, .int .i64 s]] W fun e w' => e = .returned (.bool false) ∧ Below W.heap.size W w') := fun W => valid_no b s ho W
  have dN : Hid (∀ W, Calls Tryd.prog 18 #[.agg #[.int .i64 b, .int .i64 s]] W fun e w' => e = .returned (.int .i64 0) ∧ Below W.heap.size W w') := fun W => chains_no b s ho W
  have p0 := rs_new w b s
  have e0 := p0.c0
  have e1 := p0.c1
  have L0 := hL.below p0.bel hL.two
  clear ho
  go_enter Tryd.func3, Tryd.ntmps3
  go_wp2_with (fail)
  refine (awake_any _ L0).mono ?_
  rintro e w1 ⟨rfl, hb1⟩
  have p_1 := p0.next hb1
  have L_1 := hL.below p_1.bel hL.two
  clear hb1 p0 L0 e0 e1
  have e0 := p_1.c0
  have e1 := p_1.c1
  go_wp2_with (fail)
  refine (dP.out _).mono ?_
  rintro e w2 ⟨rfl, hb2⟩
  have p_2 := p_1.next hb2
  have L_2 := hL.below p_2.bel hL.two
  clear hb2 p_1 L_1 e0 e1
  have e0 := p_2.c0
  have e1 := p_2.c1
  have P_2 := p2_new p_2 25
  obtain ⟨wq, hwq⟩ : ∃ wq, Hid (w2.alloc (.cells #[.int .i64 b, .int .i64 s] 25) = wq) := ⟨_, rfl⟩
  obtain ⟨Q, hQ⟩ : ∃ Q, Hid (w2.heap.size = Q) := ⟨_, rfl⟩
  rw [hwq.out, hQ.out] at P_2
  clear p_2 e0 e1
  have e0 := P_2.c0
  have e1 := P_2.c1
  have e2 := P_2.q0
  have e3 := P_2.q1
  go_wp2_with (fail)
  try rw [hwq.out]
  try rw [hQ.out]
  clear hwq
  refine (dD.out _).mono ?_
  rintro e w3 ⟨rfl, hb3⟩
  have P_3 := P_2.next hb3
  clear hb3 P_2 e0 e1 e2 e3
  have e0 := P_3.c0
  have e1 := P_3.c1
  have e2 := P_3.q0
  have e3 := P_3.q1
  go_wp2_with (fail)
  refine (dC.out _).mono ?_
  rintro e w4 ⟨rfl, hb4⟩
  have P_4 := P_3.next hb4
  clear hb4 P_3 e0 e1 e2 e3
  have e0 := P_4.c0
  have e1 := P_4.c1
  have e2 := P_4.q0
  have e3 := P_4.q1
  go_wp2_with (fail)
  refine (dR.out _).mono ?_
  rintro e w5 ⟨rfl, hb5⟩
  have P_5 := P_4.next hb5
  clear hb5 P_4 e0 e1 e2 e3
  have e0 := P_5.c0
  have e1 := P_5.c1
  have e2 := P_5.q0
  have e3 := P_5.q1
  go_wp2_with (fail)
  refine (dV.out _).mono ?_
  rintro e w6 ⟨rfl, hb6⟩
  have P_6 := P_5.next hb6
  clear hb6 P_5 e0 e1 e2 e3
  have e0 := P_6.c0
  have e1 := P_6.c1
  have e2 := P_6.q0
  have e3 := P_6.q1
  go_wp2_with (fail)
  refine (dN.out _).mono ?_
  rintro e w7 ⟨rfl, hb7⟩
  have P_7 := P_6.next hb7
  clear hb7 P_6 e0 e1 e2 e3
  have e0 := P_7.c0
  have e1 := P_7.c1
  have e2 := P_7.q0
  have e3 := P_7.q1
  have HB := hidIt P_7.bel
  clear P_7 e0 e1 e2 e3 L_2 dP dD dC dR dV dN
  go_wp2_with (fail)
  go_ret
  exact ⟨rfl, HB.out⟩
set_option maxRecDepth 100000 in
set_option maxHeartbeats 2000000 in
theorem odigits_one (b s : Nat) (x y : ByteArray) (ho : Ot.okB b s = true) (hx : ¬ (x.size : Int) = (s : Int)) (w : World) (hL : LaidH w) :
    Calls Tryd.prog 3 #[.agg #[.int .i64 (b : Int), .int .i64 (s : Int)], .string x, .string y] w fun e w' => e = .returned (.bool true) ∧ Below w.heap.size w w' := by
  have dP : Hid (∀ W, Calls Tryd.prog 13 #[.agg #[.int .i64 (b : Int), .int .i64 (s : Int)]] W fun e w' => e = .returned (.agg #[.int .i64 (b : Int), .int .i64 (s : Int)]) ∧ Below W.heap.size W w') := fun W => params_any _ _ W
  obtain ⟨n, hn⟩ : ∃ n, Hid (Ot.tot b s = n) := ⟨_, rfl⟩
  obtain ⟨m, hmn⟩ : ∃ m, Hid (Ot.mn b s = m) := ⟨_, rfl⟩
  obtain ⟨cc, hcd⟩ : ∃ c, Hid (Ot.cd b s = c) := ⟨_, rfl⟩
  have hnm : (m : Int) + (cc : Int) = (n : Int) := by rw [← hn.out, ← hmn.out, ← hcd.out]; unfold Ot.tot; push_cast; rfl
  have hn9 := (Ot.tot_bd b s ho).2
  rw [hn.out] at hn9
  have hwr : IntKind.i64.wrap (n : Int) = (n : Int) := IntWalk.i64_in _ (by omega)
  have dM : Hid (∀ W, Calls Tryd.prog 19 #[.agg #[.int .i64 (b : Int), .int .i64 (s : Int)]] W fun e w' => e = .returned (.int .i64 (m : Int)) ∧ Below W.heap.size W w') := fun W => hmn.out ▸ refmain_any b s ho W
  have dK : Hid (∀ W, Calls Tryd.prog 20 #[.agg #[.int .i64 (b : Int), .int .i64 (s : Int)]] W fun e w' => e = .returned (.int .i64 (cc : Int)) ∧ Below W.heap.size W w') := fun W => hcd.out ▸ refcheck_any b s ho W
  have dD : Hid (∀ W, Calls Tryd.prog 14 #[.agg #[.int .i64 (b : Int), .int .i64 (s : Int)], .string x] W fun e w' => e = .returned (.tuple #[.slice none 0 0, .int .i64 1]) ∧ Below W.heap.size W w') := fun W => digits_no _ _ x (.inr hx) W
  have dC : Hid (∀ W, Calls Tryd.prog 15 #[.agg #[.int .i64 (b : Int), .int .i64 (s : Int)], .string x, .string y] W fun e w' => e = .returned (.tuple #[.bool false, .int .i64 1]) ∧ Below W.heap.size W w') := fun W => covers_no1 _ _ x y (.inr hx) W
  have dR : Hid (∀ W, Calls Tryd.prog 16 #[.agg #[.int .i64 (b : Int), .int .i64 (s : Int)]] W fun e w' => e = .returned (.bool true) ∧ Below W.heap.size W w') := fun W => refvalid_t _ _ (by rw [okZ_nat]; exact ho) W
  have dV : Hid (∀ W, Calls Tryd.prog 17 #[.agg #[.int .i64 (b : Int), .int .i64 (s : Int)]] W fun e w' => e = .returned (.bool true) ∧ Below W.heap.size W w') := fun W => valid_ok b s ho W
  have dN : Hid (∀ W, Calls Tryd.prog 18 #[.agg #[.int .i64 (b : Int), .int .i64 (s : Int)]] W fun e w' => e = .returned (.int .i64 (n : Int)) ∧ Below W.heap.size W w') := fun W => hn.out ▸ chains_ok b s ho W
  have p0 := rs_new w (b : Int) (s : Int)
  have e0 := p0.c0
  have e1 := p0.c1
  have L0 := hL.below p0.bel hL.two
  clear ho hmn hcd hn
  go_enter Tryd.func3, Tryd.ntmps3
  go_wp2_with (fail)
  refine (awake_any _ L0).mono ?_
  rintro e w1 ⟨rfl, hb1⟩
  have p_1 := p0.next hb1
  have L_1 := hL.below p_1.bel hL.two
  clear hb1 p0 L0 e0 e1
  have e0 := p_1.c0
  have e1 := p_1.c1
  go_wp2_with (fail)
  refine (dP.out _).mono ?_
  rintro e w2 ⟨rfl, hb2⟩
  have p_2 := p_1.next hb2
  have L_2 := hL.below p_2.bel hL.two
  clear hb2 p_1 L_1 e0 e1
  have e0 := p_2.c0
  have e1 := p_2.c1
  have P_2 := p2_new p_2 25
  obtain ⟨wq, hwq⟩ : ∃ wq, Hid (w2.alloc (.cells #[.int .i64 (b : Int), .int .i64 (s : Int)] 25) = wq) := ⟨_, rfl⟩
  obtain ⟨Q, hQ⟩ : ∃ Q, Hid (w2.heap.size = Q) := ⟨_, rfl⟩
  rw [hwq.out, hQ.out] at P_2
  clear p_2 e0 e1
  have e0 := P_2.c0
  have e1 := P_2.c1
  have e2 := P_2.q0
  have e3 := P_2.q1
  go_wp2_with (fail)
  try rw [hwq.out]
  try rw [hQ.out]
  clear hwq
  refine (dD.out _).mono ?_
  rintro e w3 ⟨rfl, hb3⟩
  have P_3 := P_2.next hb3
  clear hb3 P_2 e0 e1 e2 e3
  have e0 := P_3.c0
  have e1 := P_3.c1
  have e2 := P_3.q0
  have e3 := P_3.q1
  go_wp2_with (fail)
  refine (dC.out _).mono ?_
  rintro e w4 ⟨rfl, hb4⟩
  have P_4 := P_3.next hb4
  clear hb4 P_3 e0 e1 e2 e3
  have e0 := P_4.c0
  have e1 := P_4.c1
  have e2 := P_4.q0
  have e3 := P_4.q1
  go_wp2_with (fail)
  refine (dR.out _).mono ?_
  rintro e w5 ⟨rfl, hb5⟩
  have P_5 := P_4.next hb5
  clear hb5 P_4 e0 e1 e2 e3
  have e0 := P_5.c0
  have e1 := P_5.c1
  have e2 := P_5.q0
  have e3 := P_5.q1
  go_wp2_with (fail)
  go_region_held3 (fun W' => P2 w w.heap.size Q (b : Int) (s : Int) W' ∧ W'.cell? ⟨w.heap.size, 0, none⟩ = some (.int .i64 (b : Int)) ∧ W'.cell? ⟨w.heap.size, 1, none⟩ = some (.int .i64 (s : Int)) ∧ W'.cell? ⟨Q, 0, none⟩ = some (.int .i64 (b : Int)) ∧ W'.cell? ⟨Q, 1, none⟩ = some (.int .i64 (s : Int)))
    (first
      | exact P2.all (by assumption)
      | (go_split_ands; exact P2.all (by assumption))
      | (go_split_ands; exact P2.all (P2.drew (by assumption)))
      | (go_split_ands; exact P2.all (P2.behind (by assumption) (by assumption))))
    (first
      | (go_at_call 17; (with_reducible refine Calls.mono (dV.out _) ?_); rintro e wa ⟨rfl, hba⟩)
      | (go_at_call 18; (with_reducible refine Calls.mono (dN.out _) ?_); rintro e wb ⟨rfl, hbb⟩)
      | (go_at_call 19; (with_reducible refine Calls.mono (dM.out _) ?_); rintro e wc ⟨rfl, hbc⟩)
      | (go_at_call 20; (with_reducible refine Calls.mono (dK.out _) ?_); rintro e wd ⟨rfl, hbd⟩))
  all_goals
    go_split_ands
    have P_R : P2 w w.heap.size Q (b : Int) (s : Int) wd := by assumption
    clear P_5  hba hbb hbc hbd e0 e1 e2 e3
    have e0 := P_R.c0
    have e1 := P_R.c1
    have e2 := P_R.q0
    have e3 := P_R.q1
    have HB := hidIt P_R.bel
    clear P_R e0 e1 e2 e3 L_2 dP dD dC dR dV dN dM dK hnm hwr
    go_wp2_with (fail)
    go_ret
    exact ⟨rfl, HB.out⟩
set_option maxRecDepth 100000 in
set_option maxHeartbeats 2000000 in
theorem odigits_two (b s : Nat) (x y : ByteArray) (ho : Ot.okB b s = true) (hx : (x.size : Int) = (s : Int)) (hy : ¬ (y.size : Int) = (s : Int)) (w : World) (hL : LaidH w) :
    Calls Tryd.prog 3 #[.agg #[.int .i64 (b : Int), .int .i64 (s : Int)], .string x, .string y] w fun e w' => e = .returned (.bool true) ∧ Below w.heap.size w w' := by
  have dP : Hid (∀ W, Calls Tryd.prog 13 #[.agg #[.int .i64 (b : Int), .int .i64 (s : Int)]] W fun e w' => e = .returned (.agg #[.int .i64 (b : Int), .int .i64 (s : Int)]) ∧ Below W.heap.size W w') := fun W => params_any _ _ W
  obtain ⟨xs, hxs⟩ : ∃ xs, Hid (ofStr x = xs) := ⟨_, rfl⟩
  obtain ⟨F, hF⟩ : ∃ F, Hid (Ot.dgs b s xs = F) := ⟨_, rfl⟩
  obtain ⟨n, hn⟩ : ∃ n, Hid (Ot.tot b s = n) := ⟨_, rfl⟩
  obtain ⟨m, hmn⟩ : ∃ m, Hid (Ot.mn b s = m) := ⟨_, rfl⟩
  obtain ⟨cc, hcd⟩ : ∃ c, Hid (Ot.cd b s = c) := ⟨_, rfl⟩
  have hnm : (m : Int) + (cc : Int) = (n : Int) := by rw [← hn.out, ← hmn.out, ← hcd.out]; unfold Ot.tot; push_cast; rfl
  have hn9 := (Ot.tot_bd b s ho).2
  rw [hn.out] at hn9
  have hwr : IntKind.i64.wrap (n : Int) = (n : Int) := IntWalk.i64_in _ (by omega)
  have dM : Hid (∀ W, Calls Tryd.prog 19 #[.agg #[.int .i64 (b : Int), .int .i64 (s : Int)]] W fun e w' => e = .returned (.int .i64 (m : Int)) ∧ Below W.heap.size W w') := fun W => hmn.out ▸ refmain_any b s ho W
  have dK : Hid (∀ W, Calls Tryd.prog 20 #[.agg #[.int .i64 (b : Int), .int .i64 (s : Int)]] W fun e w' => e = .returned (.int .i64 (cc : Int)) ∧ Below W.heap.size W w') := fun W => hcd.out ▸ refcheck_any b s ho W
  have dD : Hid (∀ W, Calls Tryd.prog 14 #[.agg #[.int .i64 (b : Int), .int .i64 (s : Int)], .string x] W fun e w' => DigOk W e w' F n ∧ Below W.heap.size W w') := fun W => by
    have := digits_ok b s ho x xs hxs hx W
    rwa [hn.out, hF.out] at this
  have dG : Hid (∀ W, Calls Tryd.prog 21 #[.agg #[.int .i64 (b : Int), .int .i64 (s : Int)], .string x] W fun e w' => RdI W e w' F n ∧ Below W.heap.size W w') := fun W => by
    have := refdigits_any b s ho x xs hxs hx W
    rwa [hn.out, hF.out] at this
  have dS : Hid (∀ W a a' cap, Ints W a n F → Ints W a' n F → Calls Tryd.prog 22 #[.slice a n n, .slice a' n cap] W fun e w' => e = .returned (.bool true) ∧ Below W.heap.size W w') := fun W a a' cap h1 h2 =>
    same_any a a' n n n cap F F (by omega) (by omega) true (hidIt ⟨fun _ => ⟨rfl, fun _ _ => rfl⟩, fun _ => rfl⟩) W h1 h2
  have dC : Hid (∀ W, Calls Tryd.prog 15 #[.agg #[.int .i64 (b : Int), .int .i64 (s : Int)], .string x, .string y] W fun e w' => e = .returned (.tuple #[.bool false, .int .i64 1]) ∧ Below W.heap.size W w') := fun W => covers_no2 b s ho x y xs hxs hx hy W
  have dR : Hid (∀ W, Calls Tryd.prog 16 #[.agg #[.int .i64 (b : Int), .int .i64 (s : Int)]] W fun e w' => e = .returned (.bool true) ∧ Below W.heap.size W w') := fun W => refvalid_t _ _ (by rw [okZ_nat]; exact ho) W
  have dV : Hid (∀ W, Calls Tryd.prog 17 #[.agg #[.int .i64 (b : Int), .int .i64 (s : Int)]] W fun e w' => e = .returned (.bool true) ∧ Below W.heap.size W w') := fun W => valid_ok b s ho W
  have dN : Hid (∀ W, Calls Tryd.prog 18 #[.agg #[.int .i64 (b : Int), .int .i64 (s : Int)]] W fun e w' => e = .returned (.int .i64 (n : Int)) ∧ Below W.heap.size W w') := fun W => hn.out ▸ chains_ok b s ho W
  have p0 := rs_new w (b : Int) (s : Int)
  have e0 := p0.c0
  have e1 := p0.c1
  have L0 := hL.below p0.bel hL.two
  clear ho hmn hcd hn hF hxs
  go_enter Tryd.func3, Tryd.ntmps3
  go_wp2_with (fail)
  refine (awake_any _ L0).mono ?_
  rintro e w1 ⟨rfl, hb1⟩
  have p_1 := p0.next hb1
  have L_1 := hL.below p_1.bel hL.two
  clear hb1 p0 L0 e0 e1
  have e0 := p_1.c0
  have e1 := p_1.c1
  go_wp2_with (fail)
  refine (dP.out _).mono ?_
  rintro e w2 ⟨rfl, hb2⟩
  have p_2 := p_1.next hb2
  have L_2 := hL.below p_2.bel hL.two
  clear hb2 p_1 L_1 e0 e1
  have e0 := p_2.c0
  have e1 := p_2.c1
  have P_2 := p2_new p_2 25
  obtain ⟨wq, hwq⟩ : ∃ wq, Hid (w2.alloc (.cells #[.int .i64 (b : Int), .int .i64 (s : Int)] 25) = wq) := ⟨_, rfl⟩
  obtain ⟨Q, hQ⟩ : ∃ Q, Hid (w2.heap.size = Q) := ⟨_, rfl⟩
  rw [hwq.out, hQ.out] at P_2
  clear p_2 e0 e1
  have e0 := P_2.c0
  have e1 := P_2.c1
  have e2 := P_2.q0
  have e3 := P_2.q1
  go_wp2_with (fail)
  try rw [hwq.out]
  try rw [hQ.out]
  clear hwq
  refine (dD.out _).mono ?_
  rintro e w3 ⟨⟨gd, hgd, rfl, hB⟩, hb3⟩
  have P_3 := P_2.next hb3
  have hD_3 := hidIt (ints_row hB)
  clear hb3 P_2 e0 e1 e2 e3
  have e0 := P_3.c0
  have e1 := P_3.c1
  have e2 := P_3.q0
  have e3 := P_3.q1
  clear hB hgd
  go_wp2_with (fail)
  refine (dC.out _).mono ?_
  rintro e w4 ⟨rfl, hb4⟩
  have P_4 := P_3.next hb4
  have hD_4 := hidIt (hD_3.out.below hb4)
  clear hb4 P_3 hD_3 e0 e1 e2 e3
  have e0 := P_4.c0
  have e1 := P_4.c1
  have e2 := P_4.q0
  have e3 := P_4.q1
  go_wp2_with (fail)
  refine (dR.out _).mono ?_
  rintro e w5 ⟨rfl, hb5⟩
  have P_5 := P_4.next hb5
  have hD_5 := hidIt (hD_4.out.below hb5)
  clear hb5 P_4 hD_4 e0 e1 e2 e3
  have e0 := P_5.c0
  have e1 := P_5.c1
  have e2 := P_5.q0
  have e3 := P_5.q1
  go_wp2_with (fail)
  go_region_held3 (fun W' => P2 w w.heap.size Q (b : Int) (s : Int) W' ∧ W'.cell? ⟨w.heap.size, 0, none⟩ = some (.int .i64 (b : Int)) ∧ W'.cell? ⟨w.heap.size, 1, none⟩ = some (.int .i64 (s : Int)) ∧ W'.cell? ⟨Q, 0, none⟩ = some (.int .i64 (b : Int)) ∧ W'.cell? ⟨Q, 1, none⟩ = some (.int .i64 (s : Int)))
    (first
      | exact P2.all (by assumption)
      | (go_split_ands; exact P2.all (by assumption))
      | (go_split_ands; exact P2.all (P2.drew (by assumption)))
      | (go_split_ands; exact P2.all (P2.behind (by assumption) (by assumption))))
    (first
      | (go_at_call 17; (with_reducible refine Calls.mono (dV.out _) ?_); rintro e wa ⟨rfl, hba⟩)
      | (go_at_call 18; (with_reducible refine Calls.mono (dN.out _) ?_); rintro e wb ⟨rfl, hbb⟩)
      | (go_at_call 19; (with_reducible refine Calls.mono (dM.out _) ?_); rintro e wc ⟨rfl, hbc⟩)
      | (go_at_call 20; (with_reducible refine Calls.mono (dK.out _) ?_); rintro e wd ⟨rfl, hbd⟩))
  all_goals
    go_split_ands
    have P_R : P2 w w.heap.size Q (b : Int) (s : Int) wd := by assumption
    have hD_R := hidIt (((((hD_5.out.below (Below.refl _ _).drew).below hba).below hbb).below hbc).below hbd)
    clear P_5 hD_5 hba hbb hbc hbd e0 e1 e2 e3
    have e0 := P_R.c0
    have e1 := P_R.c1
    have e2 := P_R.q0
    have e3 := P_R.q1
    go_wp2_with (fail)
    refine (dG.out _).mono ?_
    rintro e w6 ⟨⟨aw, cw, rfl, hI, hcw⟩, hb6⟩
    have P_6 := P_R.next hb6
    have hD_6 := hidIt (hD_R.out.below hb6)
    have hW_6 := hidIt (hI)
    clear hb6 P_R hD_R e0 e1 e2 e3
    have e0 := P_6.c0
    have e1 := P_6.c1
    have e2 := P_6.q0
    have e3 := P_6.q1
    clear hI
    go_wp2_with (fail)
    refine (dS.out _ _ _ _ hD_6.out hW_6.out).mono ?_
    rintro e w7 ⟨rfl, hb7⟩
    have P_7 := P_6.next hb7
    have hW_7 := hidIt (hW_6.out.below hb7)
    clear hb7 P_6 hD_6 hW_6 e0 e1 e2 e3
    have e0 := P_7.c0
    have e1 := P_7.c1
    have e2 := P_7.q0
    have e3 := P_7.q1
    clear hW_7
    have HB := hidIt P_7.bel
    clear P_7 L_2 dP dD dC dR dV dN dM dK dG dS hnm hwr
    go_wp2_with (fail)
    go_ret
    exact ⟨rfl, HB.out⟩
set_option maxRecDepth 100000 in
set_option maxHeartbeats 2000000 in
theorem odigits_three (b s : Nat) (x y : ByteArray) (ho : Ot.okB b s = true) (hx : (x.size : Int) = (s : Int)) (hy : (y.size : Int) = (s : Int)) (w : World) (hL : LaidH w) :
    Calls Tryd.prog 3 #[.agg #[.int .i64 (b : Int), .int .i64 (s : Int)], .string x, .string y] w fun e w' => e = .returned (.bool true) ∧ Below w.heap.size w w' := by
  have dP : Hid (∀ W, Calls Tryd.prog 13 #[.agg #[.int .i64 (b : Int), .int .i64 (s : Int)]] W fun e w' => e = .returned (.agg #[.int .i64 (b : Int), .int .i64 (s : Int)]) ∧ Below W.heap.size W w') := fun W => params_any _ _ W
  obtain ⟨xs, hxs⟩ : ∃ xs, Hid (ofStr x = xs) := ⟨_, rfl⟩
  obtain ⟨F, hF⟩ : ∃ F, Hid (Ot.dgs b s xs = F) := ⟨_, rfl⟩
  obtain ⟨n, hn⟩ : ∃ n, Hid (Ot.tot b s = n) := ⟨_, rfl⟩
  obtain ⟨m, hmn⟩ : ∃ m, Hid (Ot.mn b s = m) := ⟨_, rfl⟩
  obtain ⟨cc, hcd⟩ : ∃ c, Hid (Ot.cd b s = c) := ⟨_, rfl⟩
  have hnm : (m : Int) + (cc : Int) = (n : Int) := by rw [← hn.out, ← hmn.out, ← hcd.out]; unfold Ot.tot; push_cast; rfl
  have hn9 := (Ot.tot_bd b s ho).2
  rw [hn.out] at hn9
  have hwr : IntKind.i64.wrap (n : Int) = (n : Int) := IntWalk.i64_in _ (by omega)
  have dM : Hid (∀ W, Calls Tryd.prog 19 #[.agg #[.int .i64 (b : Int), .int .i64 (s : Int)]] W fun e w' => e = .returned (.int .i64 (m : Int)) ∧ Below W.heap.size W w') := fun W => hmn.out ▸ refmain_any b s ho W
  have dK : Hid (∀ W, Calls Tryd.prog 20 #[.agg #[.int .i64 (b : Int), .int .i64 (s : Int)]] W fun e w' => e = .returned (.int .i64 (cc : Int)) ∧ Below W.heap.size W w') := fun W => hcd.out ▸ refcheck_any b s ho W
  have dD : Hid (∀ W, Calls Tryd.prog 14 #[.agg #[.int .i64 (b : Int), .int .i64 (s : Int)], .string x] W fun e w' => DigOk W e w' F n ∧ Below W.heap.size W w') := fun W => by
    have := digits_ok b s ho x xs hxs hx W
    rwa [hn.out, hF.out] at this
  have dG : Hid (∀ W, Calls Tryd.prog 21 #[.agg #[.int .i64 (b : Int), .int .i64 (s : Int)], .string x] W fun e w' => RdI W e w' F n ∧ Below W.heap.size W w') := fun W => by
    have := refdigits_any b s ho x xs hxs hx W
    rwa [hn.out, hF.out] at this
  have dS : Hid (∀ W a a' cap, Ints W a n F → Ints W a' n F → Calls Tryd.prog 22 #[.slice a n n, .slice a' n cap] W fun e w' => e = .returned (.bool true) ∧ Below W.heap.size W w') := fun W a a' cap h1 h2 =>
    same_any a a' n n n cap F F (by omega) (by omega) true (hidIt ⟨fun _ => ⟨rfl, fun _ _ => rfl⟩, fun _ => rfl⟩) W h1 h2
  obtain ⟨ys, hys⟩ : ∃ ys, Hid (ofStr y = ys) := ⟨_, rfl⟩
  obtain ⟨H, hH⟩ : ∃ H, Hid (Ot.dgs b s ys = H) := ⟨_, rfl⟩
  obtain ⟨cv, hcv⟩ : ∃ cv : Bool, cv = true ↔ ∀ i, i < n → F i ≤ H i := ⟨@decide (∀ i, i < n → F i ≤ H i) (Classical.propDecidable _), by simp⟩
  have dC : Hid (∀ W, Calls Tryd.prog 15 #[.agg #[.int .i64 (b : Int), .int .i64 (s : Int)], .string x, .string y] W fun e w' => e = .returned (.tuple #[.bool cv, .int .i64 0]) ∧ Below W.heap.size W w') := fun W => covers_ok b s ho x y xs ys hxs hys hx hy cv (hidIt (by rw [hn.out, hF.out, hH.out]; exact hcv)) W
  have dH : Hid (∀ W, Calls Tryd.prog 21 #[.agg #[.int .i64 (b : Int), .int .i64 (s : Int)], .string y] W fun e w' => RdI W e w' H n ∧ Below W.heap.size W w') := fun W => by
    have := refdigits_any b s ho y ys hys hy W
    rwa [hn.out, hH.out] at this
  have hcv2 := hidIt hcv
  have dR : Hid (∀ W, Calls Tryd.prog 16 #[.agg #[.int .i64 (b : Int), .int .i64 (s : Int)]] W fun e w' => e = .returned (.bool true) ∧ Below W.heap.size W w') := fun W => refvalid_t _ _ (by rw [okZ_nat]; exact ho) W
  have dV : Hid (∀ W, Calls Tryd.prog 17 #[.agg #[.int .i64 (b : Int), .int .i64 (s : Int)]] W fun e w' => e = .returned (.bool true) ∧ Below W.heap.size W w') := fun W => valid_ok b s ho W
  have dN : Hid (∀ W, Calls Tryd.prog 18 #[.agg #[.int .i64 (b : Int), .int .i64 (s : Int)]] W fun e w' => e = .returned (.int .i64 (n : Int)) ∧ Below W.heap.size W w') := fun W => hn.out ▸ chains_ok b s ho W
  have p0 := rs_new w (b : Int) (s : Int)
  have e0 := p0.c0
  have e1 := p0.c1
  have L0 := hL.below p0.bel hL.two
  clear ho hmn hcd hn hF hxs hys hH hcv
  go_enter Tryd.func3, Tryd.ntmps3
  go_wp2_with (fail)
  refine (awake_any _ L0).mono ?_
  rintro e w1 ⟨rfl, hb1⟩
  have p_1 := p0.next hb1
  have L_1 := hL.below p_1.bel hL.two
  clear hb1 p0 L0 e0 e1
  have e0 := p_1.c0
  have e1 := p_1.c1
  go_wp2_with (fail)
  refine (dP.out _).mono ?_
  rintro e w2 ⟨rfl, hb2⟩
  have p_2 := p_1.next hb2
  have L_2 := hL.below p_2.bel hL.two
  clear hb2 p_1 L_1 e0 e1
  have e0 := p_2.c0
  have e1 := p_2.c1
  have P_2 := p2_new p_2 25
  obtain ⟨wq, hwq⟩ : ∃ wq, Hid (w2.alloc (.cells #[.int .i64 (b : Int), .int .i64 (s : Int)] 25) = wq) := ⟨_, rfl⟩
  obtain ⟨Q, hQ⟩ : ∃ Q, Hid (w2.heap.size = Q) := ⟨_, rfl⟩
  rw [hwq.out, hQ.out] at P_2
  clear p_2 e0 e1
  have e0 := P_2.c0
  have e1 := P_2.c1
  have e2 := P_2.q0
  have e3 := P_2.q1
  go_wp2_with (fail)
  try rw [hwq.out]
  try rw [hQ.out]
  clear hwq
  refine (dD.out _).mono ?_
  rintro e w3 ⟨⟨gd, hgd, rfl, hB⟩, hb3⟩
  have P_3 := P_2.next hb3
  have hD_3 := hidIt (ints_row hB)
  clear hb3 P_2 e0 e1 e2 e3
  have e0 := P_3.c0
  have e1 := P_3.c1
  have e2 := P_3.q0
  have e3 := P_3.q1
  clear hB hgd
  go_wp2_with (fail)
  refine (dC.out _).mono ?_
  rintro e w4 ⟨rfl, hb4⟩
  have P_4 := P_3.next hb4
  have hD_4 := hidIt (hD_3.out.below hb4)
  clear hb4 P_3 hD_3 e0 e1 e2 e3
  have e0 := P_4.c0
  have e1 := P_4.c1
  have e2 := P_4.q0
  have e3 := P_4.q1
  go_wp2_with (fail)
  refine (dR.out _).mono ?_
  rintro e w5 ⟨rfl, hb5⟩
  have P_5 := P_4.next hb5
  have hD_5 := hidIt (hD_4.out.below hb5)
  clear hb5 P_4 hD_4 e0 e1 e2 e3
  have e0 := P_5.c0
  have e1 := P_5.c1
  have e2 := P_5.q0
  have e3 := P_5.q1
  go_wp2_with (fail)
  go_region_held3 (fun W' => P2 w w.heap.size Q (b : Int) (s : Int) W' ∧ W'.cell? ⟨w.heap.size, 0, none⟩ = some (.int .i64 (b : Int)) ∧ W'.cell? ⟨w.heap.size, 1, none⟩ = some (.int .i64 (s : Int)) ∧ W'.cell? ⟨Q, 0, none⟩ = some (.int .i64 (b : Int)) ∧ W'.cell? ⟨Q, 1, none⟩ = some (.int .i64 (s : Int)))
    (first
      | exact P2.all (by assumption)
      | (go_split_ands; exact P2.all (by assumption))
      | (go_split_ands; exact P2.all (P2.drew (by assumption)))
      | (go_split_ands; exact P2.all (P2.behind (by assumption) (by assumption))))
    (first
      | (go_at_call 17; (with_reducible refine Calls.mono (dV.out _) ?_); rintro e wa ⟨rfl, hba⟩)
      | (go_at_call 18; (with_reducible refine Calls.mono (dN.out _) ?_); rintro e wb ⟨rfl, hbb⟩)
      | (go_at_call 19; (with_reducible refine Calls.mono (dM.out _) ?_); rintro e wc ⟨rfl, hbc⟩)
      | (go_at_call 20; (with_reducible refine Calls.mono (dK.out _) ?_); rintro e wd ⟨rfl, hbd⟩))
  all_goals
    go_split_ands
    have P_R : P2 w w.heap.size Q (b : Int) (s : Int) wd := by assumption
    have hD_R := hidIt (((((hD_5.out.below (Below.refl _ _).drew).below hba).below hbb).below hbc).below hbd)
    clear P_5 hD_5 hba hbb hbc hbd e0 e1 e2 e3
    have e0 := P_R.c0
    have e1 := P_R.c1
    have e2 := P_R.q0
    have e3 := P_R.q1
    go_wp2_with (fail)
    refine (dG.out _).mono ?_
    rintro e w6 ⟨⟨aw, cw, rfl, hI, hcw⟩, hb6⟩
    have P_6 := P_R.next hb6
    have hD_6 := hidIt (hD_R.out.below hb6)
    have hW_6 := hidIt (hI)
    clear hb6 P_R hD_R e0 e1 e2 e3
    have e0 := P_6.c0
    have e1 := P_6.c1
    have e2 := P_6.q0
    have e3 := P_6.q1
    clear hI
    go_wp2_with (fail)
    refine (dS.out _ _ _ _ hD_6.out hW_6.out).mono ?_
    rintro e w7 ⟨rfl, hb7⟩
    have P_7 := P_6.next hb7
    have hW_7 := hidIt (hW_6.out.below hb7)
    clear hb7 P_6 hD_6 hW_6 e0 e1 e2 e3
    have e0 := P_7.c0
    have e1 := P_7.c1
    have e2 := P_7.q0
    have e3 := P_7.q1
    go_wp2_with (fail)
    refine (dH.out _).mono ?_
    rintro e w8 ⟨⟨ao, co, rfl, hJ, hco⟩, hb8⟩
    have P_8 := P_7.next hb8
    have hW_8 := hidIt (hW_7.out.below hb8)
    have hO_8 := hidIt (hJ)
    clear hb8 P_7 hW_7 e0 e1 e2 e3
    have e0 := P_8.c0
    have e1 := P_8.c1
    have e2 := P_8.q0
    have e3 := P_8.q1
    clear hJ
    have HB := hidIt P_8.bel
    clear P_8 e0 e1 e2 e3 L_2 dP dD dC dR dV dN dM dK dG dS dH hnm hwr
    go_wp2_with (fail)
    go_loopw [121, 13] (fun i z wr => ∃ (k q : Nat) (cz : Bool), i = .int .i64 (k : Int) ∧ k ≤ n ∧ z = .bool cz ∧ Hid (cz = true ↔ ∀ j, j < k → F j ≤ H j) ∧ Hid (wr = w8.drewN q)) (fun i _ _ => n - (intOf i).toNat)
    case atStart => exact ⟨0, 0, true, rfl, by omega, rfl, hidIt ⟨fun _ j hj => by omega, fun _ => rfl⟩, rfl⟩
    case round =>
      obtain ⟨k, q, cz, rfl, hk, rfl, hcz, hw⟩ := hrel
      by_cases hlt : k < n
      · obtain ⟨b1, o1, rfl, c1⟩ := hW_8.out k hlt
        obtain ⟨b2, o2, rfl, c2⟩ := hO_8.out k hlt
        have c1' : wr.cell? ⟨b1, o1 + k, none⟩ = some (.int .i64 (F k : Int)) := by rw [hw.out]; exact c1
        have c2' : wr.cell? ⟨b2, o2 + k, none⟩ = some (.int .i64 (H k : Int)) := by rw [hw.out]; exact c2
        obtain ⟨u, hu⟩ : ∃ u, Hid (F k = u) := ⟨_, rfl⟩
        obtain ⟨v, hv⟩ : ∃ v, Hid (H k = v) := ⟨_, rfl⟩
        rw [hu.out] at c1'
        rw [hv.out] at c2'
        clear c1 c2
        obtain ⟨c', hc'⟩ : ∃ c' : Bool, (cz && decide ((u : Int) ≤ (v : Int))) = c' := ⟨_, rfl⟩
        have hst : Hid (c' = true ↔ ∀ j, j < k + 1 → F j ≤ H j) := by
          show _ ↔ _
          rw [← hc', Bool.and_eq_true, hcz.out, decide_eq_true_iff]
          constructor
          · rintro ⟨h1, h2⟩ j hj
            by_cases h : j = k
            · subst h; rw [hu.out, hv.out]; omega
            · exact h1 j (by omega)
          · intro h
            refine ⟨fun j hj => h j (by omega), ?_⟩
            have := h k (by omega)
            rw [hu.out, hv.out] at this; omega
        have hc'' := hidIt hc'
        clear hc' hcz hu hv
        cases cz with
        | true =>
          have hd : Hid (decide (u ≤ v) = c') := by show _ = _; have := hc''.out; simpa using this
          clear hc''
          go_wp2
          go_quiet (fail)
          go_wp2
          go_roundw
          case rel => exact ⟨k + 1, _, c', by go_num, by omega, by rw [← hd.out], hst, by rw [hw.out]; exact World.drewN_drewN ..⟩
          case measure => simp [intOf]; omega
        | false =>
          have hd : Hid (false = c') := by show _ = _; have := hc''.out; simpa using this
          clear hc''
          go_wp2
          go_quiet (fail)
          go_wp2
          go_roundw
          case rel => exact ⟨k + 1, _, c', by go_num, by omega, by rw [← hd.out], hst, by rw [hw.out]; exact World.drewN_drewN ..⟩
          case measure => simp [intOf]; omega
      · have hcc : Hid (cz = cv) := by
          have hkn : k = n := by omega
          show _ = _
          rw [Bool.eq_iff_iff, hcz.out, hcv2.out, hkn]
        obtain rfl : cz = cv := hcc.out
        clear hcz hcv2 hcc
        cases cz
        all_goals
          go_wp2
          go_ret
          exact ⟨rfl, by rw [hw.out]; exact below_drewN HB.out _⟩
theorem odigits_walk (b s : Int) (x y : ByteArray) (w : World) (hL : LaidH w) (_h0 : (Lit.int .i64 b).wf = true) (_h1 : (Lit.int .i64 s).wf = true) (_h2 : x.size ≤ maxLen) (_h3 : y.size ≤ maxLen) :
    Calls Tryd.prog 3 #[.agg #[.int .i64 b, .int .i64 s], .string x, .string y] w fun e w' => e = .returned (.bool true) ∧ Below w.heap.size w w' := by
  by_cases ho : okZ b s = true
  · obtain ⟨b', s', rfl, rfl, ho'⟩ := okZ_of ho
    by_cases hx : (x.size : Int) = (s' : Int)
    · by_cases hy : (y.size : Int) = (s' : Int)
      · exact odigits_three b' s' x y ho' hx hy w hL
      · exact odigits_two b' s' x y ho' hx hy w hL
    · exact odigits_one b' s' x y ho' hx w hL
  · exact odigits_bad b s x y (by simpa using ho) w hL
end Go.Proofs.YtegfbmekpmdcaaaDoor
