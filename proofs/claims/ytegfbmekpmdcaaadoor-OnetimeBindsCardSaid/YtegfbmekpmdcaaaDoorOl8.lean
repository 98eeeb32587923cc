import Derived.Test.YtegfbmekpmdcaaaDoorSu
namespace Go.Proofs.YtegfbmekpmdcaaaDoor
open Go.RowKit
theorem tot_small (b s : Nat) (ho : Ot.okB b s = true) (hs : smB (b : Int) (s : Int) = true) : Ot.tot b s ≤ 127 := by
  have := Ot.ok_all (fun b s => !smB (b : Int) (s : Int) || decide (Ot.tot b s ≤ 127)) (by decide +kernel) b s ho
  simpa [hs] using this
theorem binds_coll (b s : Nat) (ho : Ot.okB b s = true) (ht : Ot.tot b s ≤ 127) (ks xs ys : List Nat) (hkl : ks.length = 32) (hkb : ∀ x ∈ ks, x < 256) (hx : ∀ x ∈ xs, x < 256) (hy : ∀ x ∈ ys, x < 256) (hxl : xs.length = s) (hyl : ys.length = s) (hne : xs ≠ ys) (n : Nat) (hn : n = Ot.tot b s) (ss : List ByteArray) (hss : ∀ i, i < n → ss.getD i ByteArray.empty = Ot.vl ks i (Ot.dgs b s xs i))
    (L : List ByteArray) (hG : SuG (Su.A ks) (Su.B ks) (Su.I ks) (Su.J (Ot.dgs b s ys) ss) (Ot.dgs b s ys) (Ot.las b) n (str (Ot.endsTo (Ot.goE b (fun _ => 0) ((List.range n).map (Ot.sec ks))) n)) (str (Ot.endsTo (Ot.goE b (Ot.dgs b s ys) ss) n)) L)
    (hv : Ot.rcv b s (Ot.dgs b s ys) ss = Ot.pub b s ks) : Coll L := by
  rcases ends_coll hG hn (fun i hi => by rw [List.getD_eq_getElem?_getD, List.getElem?_map, List.getElem?_range hi]; rfl) (fun i hi => by rw [hss i hi]; exact Ot.vl_size _ _ _) hv with h | h
  · exact h
  · have hex : ∃ i, i < n ∧ Ot.dgs b s ys i < Ot.dgs b s xs i := by
      refine Classical.byContradiction fun hno => hne (Ot.covered b s ho xs ys hx hy hxl hyl fun i hi => ?_)
      refine Nat.le_of_not_lt fun hlt => hno ⟨i, by omega, hlt⟩
    obtain ⟨i, hi, hlt⟩ := hex
    by_cases he : Ot.vl ks i (Ot.dgs b s xs i) = Ot.vl ks i (Ot.dgs b s ys i)
    · exact step_coll (by omega) hkb (Ot.las_bd b s ho).2.1 hi (by omega) hG hlt (Ot.dgs_le b s xs i) he
    · exact chain_coll hG hi (Ot.dgs_le b s ys i) (by rw [hss i hi]; exact he) (h i hi)
set_option maxRecDepth 100000 in
set_option maxHeartbeats 2000000 in
theorem obinds_ok (b s : Nat) (sd dig oth : ByteArray) (hf : Fits (b : Int) (s : Int) sd dig) (hos : (oth.size : Int) = (s : Int)) (hne : oth ≠ dig) (w : World) (hL : LaidH w) :
    Calls Tryd.prog 11 #[.agg #[.int .i64 (b : Int), .int .i64 (s : Int)], .string sd, .string dig, .string oth] w fun e w' => e = .returned (.bool true) ∧ Below w.heap.size w w' := by
  have ho : Ot.okB b s = true := by rw [← okZ_nat]; exact hf.1
  have h32 := hf.2.2.1
  have hds := hf.2.2.2
  have ht := tot_small b s ho hf.2.1
  have dF : Hid (∀ W, Calls Tryd.prog 37 #[.agg #[.int .i64 (b : Int), .int .i64 (s : Int)], .string sd, .string dig] W fun e w' => e = .returned (.bool true) ∧ Below W.heap.size W w') := fun W => fits_t _ _ sd dig hf W
  have dP : Hid (∀ W, Calls Tryd.prog 13 #[.agg #[.int .i64 (b : Int), .int .i64 (s : Int)]] W fun e w' => e = .returned (.agg #[.int .i64 (b : Int), .int .i64 (s : Int)]) ∧ Below W.heap.size W w') := fun W => params_any _ _ W
  obtain ⟨ks, hks⟩ : ∃ ks, Hid (ofStr sd = ks) := ⟨_, rfl⟩
  obtain ⟨xs, hxs⟩ : ∃ xs, Hid (ofStr dig = xs) := ⟨_, rfl⟩
  obtain ⟨ys, hys⟩ : ∃ ys, Hid (ofStr oth = ys) := ⟨_, rfl⟩
  obtain ⟨n, hn⟩ : ∃ n, Hid (Ot.tot b s = n) := ⟨_, rfl⟩
  obtain ⟨F, hF⟩ : ∃ F, Hid (Ot.dgs b s xs = F) := ⟨_, rfl⟩
  obtain ⟨K, hK⟩ : ∃ K, Hid (Ot.pub b s ks = K) := ⟨_, rfl⟩
  obtain ⟨P, hP⟩ : ∃ P : Nat → ByteArray, Hid ((fun i => Ot.vl ks i (F i)) = P) := ⟨_, rfl⟩
  have hPi : ∀ i, P i = Ot.vl ks i (F i) := fun i => by rw [← hP.out]
  have hn9 := Ot.tot_bd b s ho
  have hget : ∀ i, i < n → ((List.range n).map P).getD i ByteArray.empty = P i := fun i hi => by
    rw [List.getD_eq_getElem?_getD, List.getElem?_map, List.getElem?_range hi]; rfl
  obtain ⟨SG, hSG⟩ : ∃ SG, Hid ((List.range n).map P = SG) := ⟨_, rfl⟩
  rw [hSG.out] at hget
  have hlen : n = SG.length := by rw [← hSG.out]; simp
  have hss : Hid (SG.length = Ot.tot b s) := hidIt (by rw [hn.out, ← hlen])
  have hp32 : ∀ i, i < n → (SG.getD i ByteArray.empty).size = 32 := fun i hi => by rw [hget i hi, hPi]; exact Ot.vl_size _ _ _
  have hall : Hid (∀ i, i < SG.length → (SG.getD i ByteArray.empty).size = 32) := hidIt (fun i hi => hp32 i (by omega))
  have dK : Hid (∀ W, LaidH W → Calls Tryd.prog 28 #[.agg #[.int .i64 (b : Int), .int .i64 (s : Int)], .string sd] W fun e w' => e = .returned (.tuple #[.string K, .int .i64 0]) ∧ Below W.heap.size W w') := fun W hW => hK.out ▸ public_ok b s ho sd ks hks h32 W hW
  have dS : Hid (∀ W, LaidH W → Calls Tryd.prog 29 #[.agg #[.int .i64 (b : Int), .int .i64 (s : Int)], .string sd, .string dig] W fun e w' => (∃ g, W.heap.size ≤ g ∧ e = .returned (.tuple #[.slice (some ⟨g, 0, none⟩) n n, .int .i64 0]) ∧ Strs w' (some ⟨g, 0, none⟩) SG) ∧ Below W.heap.size W w') := fun W hW => by
    have := sign_ok b s ho sd ks hks h32 dig xs hxs hds W hW
    rw [hn.out, hF.out, hP.out] at this
    rw [← hSG.out]; exact this
  obtain ⟨v, hv⟩ : ∃ v : Bool, Hid (v = true ↔ Ot.rcv b s (Ot.dgs b s ys) SG = K) := ⟨decide (Ot.rcv b s (Ot.dgs b s ys) SG = K), hidIt (by simp)⟩
  have dV : Hid (∀ W a, LaidH W → Strs W a SG → Calls Tryd.prog 34 #[.agg #[.int .i64 (b : Int), .int .i64 (s : Int)], .string K, .string oth, .slice a n n] W fun e w' => e = .returned (.bool v) ∧ Below W.heap.size W w') := fun W a hW hS =>
    verify_ok b s ho oth ys hys hos a n n _ hlen hss hall K v hv W hW hS
  have dT : Hid (∀ W a, Strs W a SG → Calls Tryd.prog 35 #[.agg #[.int .i64 (b : Int), .int .i64 (s : Int)], .slice a n n] W fun e w' => e = .returned (.bool true) ∧ Below W.heap.size W w') := fun W a hS => refparts_any b s ho a n n SG hlen (by have := hn.out; omega) true (hidIt ⟨fun _ => ⟨hp32, hn.out.symm⟩, fun _ => rfl⟩) W hS
  have hcl : v = true → ∀ L, SuG (Su.A ks) (Su.B ks) (Su.I ks) (Su.J (Ot.dgs b s ys) SG) (Ot.dgs b s ys) (Ot.las b) n (str (Ot.endsTo (Ot.goE b (fun _ => 0) ((List.range n).map (Ot.sec ks))) n)) (str (Ot.endsTo (Ot.goE b (Ot.dgs b s ys) SG) n)) L → Coll L := fun h L hG =>
    binds_coll b s ho ht ks xs ys (by rw [← hks.out, ofStr_len]; omega) (by rw [← hks.out]; exact ofStr_lt _) (by rw [← hxs.out]; exact ofStr_lt _) (by rw [← hys.out]; exact ofStr_lt _) (by rw [← hxs.out, ofStr_len]; omega) (by rw [← hys.out, ofStr_len]; omega)
      (fun e => hne (ofStr_inj (by rw [hxs.out, hys.out, e]))) n hn.out.symm SG (fun i hi => by rw [hget i hi, hPi, hF.out]) L hG (by rw [hK.out]; exact hv.out.1 h)
  have dU : Hid (v = true → ∀ W a, Strs W a SG → Calls Tryd.prog 39 #[.agg #[.int .i64 (b : Int), .int .i64 (s : Int)], .string sd, .string oth, .slice a n n] W fun e w' => (∃ a' k c, e = .returned (.slice a' k c) ∧ Hid (∃ L, k = L.length ∧ Strs w' a' L ∧ k ≤ 1000000 ∧ (∀ x ∈ L, x.size ≤ 9000) ∧ Coll L)) ∧ Below W.heap.size W w') := fun h W a hS => by
    refine (summed_any b s ho ht sd ks hks (by omega) oth ys hys hos a n n SG hlen hn.out.symm hp32 W hS).mono ?_
    rintro e w' ⟨⟨a', k, c, L, rfl, hk, hst, hG⟩, hb⟩
    exact ⟨⟨a', k, c, rfl, ⟨L, hk, hst, by rw [hk]; exact hG.ln, hG.sz, hcl h L hG⟩⟩, hb⟩
  have t3 : (oth.toList == dig.toList) = false := (str_bne hne).2
  have p0 := rs_new w (b : Int) (s : Int)
  have e0 := p0.c0
  have e1 := p0.c1
  have L0 := hL.below p0.bel hL.two
  clear hcl hv hlen hss hall hget hPi hK hP hF hn hxs hys hks ho h32 hds hf hn9 ht hp32 hSG hne
  go_enter Tryd.func11, Tryd.ntmps11
  go_wp2_with (fail)
  refine (awake_any _ L0).mono ?_
  rintro e w1 ⟨rfl, hb1⟩
  have p_1 := p0.next hb1
  have L_1 := hL.below p_1.bel hL.two
  clear hb1 p0 L0 e0 e1
  have e0 := p_1.c0
  have e1 := p_1.c1
  go_wp2_with (fail)
  refine (dF.out _).mono ?_
  rintro e w2 ⟨rfl, hb2⟩
  have p_2 := p_1.next hb2
  have L_2 := hL.below p_2.bel hL.two
  clear hb2 p_1 L_1 e0 e1
  have e0 := p_2.c0
  have e1 := p_2.c1
  go_wp2_with (fail)
  refine (dP.out _).mono ?_
  rintro e w3 ⟨rfl, hb3⟩
  have p_3 := p_2.next hb3
  have L_3 := hL.below p_3.bel hL.two
  clear hb3 p_2 L_2 e0 e1
  have e0 := p_3.c0
  have e1 := p_3.c1
  go_wp2_with (fail)
  refine (dK.out _ L_3).mono ?_
  rintro e w4 ⟨rfl, hb4⟩
  have p_4 := p_3.next hb4
  have L_4 := hL.below p_4.bel hL.two
  clear hb4 p_3 L_3 e0 e1
  have e0 := p_4.c0
  have e1 := p_4.c1
  go_wp2_with (fail)
  refine (dP.out _).mono ?_
  rintro e w5 ⟨rfl, hb5⟩
  have p_5 := p_4.next hb5
  have L_5 := hL.below p_5.bel hL.two
  clear hb5 p_4 L_4 e0 e1
  have e0 := p_5.c0
  have e1 := p_5.c1
  go_wp2_with (fail)
  refine (dS.out _ L_5).mono ?_
  rintro e w6 ⟨⟨gs, hgs, rfl, hS⟩, hb6⟩
  have p_6 := p_5.next hb6
  have hS_6 := hidIt (hS)
  have L_6 := hL.below p_6.bel hL.two
  clear hb6 p_5 L_5 e0 e1
  have e0 := p_6.c0
  have e1 := p_6.c1
  clear hgs hS
  go_wp2_with (fail)
  refine (dP.out _).mono ?_
  rintro e w7 ⟨rfl, hb7⟩
  have p_7 := p_6.next hb7
  have hS_7 := hidIt (hS_6.out.below hb7)
  have L_7 := hL.below p_7.bel hL.two
  clear hb7 p_6 hS_6 L_6 e0 e1
  have e0 := p_7.c0
  have e1 := p_7.c1
  go_wp2_with (fail)
  refine (dV.out _ _ L_7 hS_7.out).mono ?_
  rintro e w8 ⟨rfl, hb8⟩
  have p_8 := p_7.next hb8
  have hS_8 := hidIt (hS_7.out.below hb8)
  have L_8 := hL.below p_8.bel hL.two
  clear hb8 p_7 hS_7 L_7 e0 e1
  have e0 := p_8.c0
  have e1 := p_8.c1
  cases v
  · have HB := hidIt p_8.bel
    clear p_8 e0 e1 L_8 dF dP dK dS dV dT dU
    go_wp2_with (fail)
    go_ret
    exact ⟨by first | rfl | trivial, HB.out⟩
  · go_wp2_with (fail)
    refine (dT.out _ _ hS_8.out).mono ?_
    rintro e w9 ⟨rfl, hb9⟩
    have p_9 := p_8.next hb9
    have hS_9 := hidIt (hS_8.out.below hb9)
    have L_9 := hL.below p_9.bel hL.two
    clear hb9 p_8 hS_8 L_8 e0 e1
    have e0 := p_9.c0
    have e1 := p_9.c1
    go_wp2_with (fail)
    refine (dU.out (by first | rfl | trivial) _ _ hS_9.out).mono ?_
    rintro e w10 ⟨⟨al, kl, cl, rfl, hLL⟩, hb10⟩
    have p_10 := p_9.next hb10
    have hS_10 := hidIt (hS_9.out.below hb10)
    have L_10 := hL.below p_10.bel hL.two
    clear hb10 p_9 hS_9 L_9 e0 e1
    have e0 := p_10.c0
    have e1 := p_10.c1
    obtain ⟨LL, hk1, hk2, hk3, hk4, hk5⟩ := hLL.out
    have dX : Hid (Calls Tryd.prog 38 #[.slice al kl cl] w10 fun e w' => e = .returned (.bool true) ∧ Below w10.heap.size w10 w') := collision_any al kl cl LL hk1 hk3 hk4 hk5 w10 hk2
    clear hLL hk1 hk2 hk3 hk4 hk5
    go_wp2_with (fail)
    refine (dX.out).mono ?_
    rintro e w11 ⟨rfl, hb11⟩
    have p_11 := p_10.next hb11
    have hS_11 := hidIt (hS_10.out.below hb11)
    have L_11 := hL.below p_11.bel hL.two
    clear hb11 p_10 hS_10 L_10 e0 e1
    have e0 := p_11.c0
    have e1 := p_11.c1
    have HB := hidIt p_11.bel
    clear p_11 e0 e1 L_11 dF dP dK dS dV dT dU
    go_wp2_with (fail)
    go_ret
    exact ⟨by first | rfl | trivial, HB.out⟩
set_option maxRecDepth 100000 in
set_option maxHeartbeats 2000000 in
theorem obinds_no (b s : Int) (sd dig oth : ByteArray) (hf : ¬ Fits b s sd dig) (w : World) (hL : LaidH w) :
    Calls Tryd.prog 11 #[.agg #[.int .i64 b, .int .i64 s], .string sd, .string dig, .string oth] w fun e w' => e = .returned (.bool true) ∧ Below w.heap.size w w' := by
  have dF : Hid (∀ W, Calls Tryd.prog 37 #[.agg #[.int .i64 b, .int .i64 s], .string sd, .string dig] W fun e w' => e = .returned (.bool false) ∧ Below W.heap.size W w') := fun W => fits_f _ _ sd dig hf W
  have p0 := rs_new w b s
  have e0 := p0.c0
  have e1 := p0.c1
  have L0 := hL.below p0.bel hL.two
  clear hf
  go_enter Tryd.func11, Tryd.ntmps11
  go_wp2_with (fail)
  refine (awake_any _ L0).mono ?_
  rintro e w1 ⟨rfl, hb1⟩
  have p_1 := p0.next hb1
  have L_1 := hL.below p_1.bel hL.two
  clear hb1 p0 L0 e0 e1
  have e0 := p_1.c0
  have e1 := p_1.c1
  go_wp2_with (fail)
  refine (dF.out _).mono ?_
  rintro e w2 ⟨rfl, hb2⟩
  have p_2 := p_1.next hb2
  have L_2 := hL.below p_2.bel hL.two
  clear hb2 p_1 L_1 e0 e1
  have e0 := p_2.c0
  have e1 := p_2.c1
  have HB := hidIt p_2.bel
  clear p_2 L_2 dF
  go_wp2_with (fail)
  go_ret
  exact ⟨rfl, HB.out⟩
set_option maxRecDepth 100000 in
set_option maxHeartbeats 2000000 in
theorem obinds_len (b s : Int) (sd dig oth : ByteArray) (hf : Fits b s sd dig) (hos : ¬ (oth.size : Int) = s) (w : World) (hL : LaidH w) :
    Calls Tryd.prog 11 #[.agg #[.int .i64 b, .int .i64 s], .string sd, .string dig, .string oth] w fun e w' => e = .returned (.bool true) ∧ Below w.heap.size w w' := by
  have dF : Hid (∀ W, Calls Tryd.prog 37 #[.agg #[.int .i64 b, .int .i64 s], .string sd, .string dig] W fun e w' => e = .returned (.bool true) ∧ Below W.heap.size W w') := fun W => fits_t _ _ sd dig hf W
  have p0 := rs_new w b s
  have e0 := p0.c0
  have e1 := p0.c1
  have L0 := hL.below p0.bel hL.two
  clear hf
  go_enter Tryd.func11, Tryd.ntmps11
  go_wp2_with (fail)
  refine (awake_any _ L0).mono ?_
  rintro e w1 ⟨rfl, hb1⟩
  have p_1 := p0.next hb1
  have L_1 := hL.below p_1.bel hL.two
  clear hb1 p0 L0 e0 e1
  have e0 := p_1.c0
  have e1 := p_1.c1
  go_wp2_with (fail)
  refine (dF.out _).mono ?_
  rintro e w2 ⟨rfl, hb2⟩
  have p_2 := p_1.next hb2
  have L_2 := hL.below p_2.bel hL.two
  clear hb2 p_1 L_1 e0 e1
  have e0 := p_2.c0
  have e1 := p_2.c1
  have HB := hidIt p_2.bel
  clear p_2 L_2 dF
  go_wp2_with (fail)
  go_ret
  exact ⟨rfl, HB.out⟩
set_option maxRecDepth 100000 in
set_option maxHeartbeats 2000000 in
theorem obinds_eq (b s : Int) (sd dig oth : ByteArray) (hf : Fits b s sd dig) (hos : (oth.size : Int) = s) (he : oth = dig) (w : World) (hL : LaidH w) :
    Calls Tryd.prog 11 #[.agg #[.int .i64 b, .int .i64 s], .string sd, .string dig, .string oth] w fun e w' => e = .returned (.bool true) ∧ Below w.heap.size w w' := by
  have dF : Hid (∀ W, Calls Tryd.prog 37 #[.agg #[.int .i64 b, .int .i64 s], .string sd, .string dig] W fun e w' => e = .returned (.bool true) ∧ Below W.heap.size W w') := fun W => fits_t _ _ sd dig hf W
  have t3 : (oth.toList == dig.toList) = true := by rw [he]; simp
  have p0 := rs_new w b s
  have e0 := p0.c0
  have e1 := p0.c1
  have L0 := hL.below p0.bel hL.two
  clear hf he
  go_enter Tryd.func11, Tryd.ntmps11
  go_wp2_with (fail)
  refine (awake_any _ L0).mono ?_
  rintro e w1 ⟨rfl, hb1⟩
  have p_1 := p0.next hb1
  have L_1 := hL.below p_1.bel hL.two
  clear hb1 p0 L0 e0 e1
  have e0 := p_1.c0
  have e1 := p_1.c1
  go_wp2_with (fail)
  refine (dF.out _).mono ?_
  rintro e w2 ⟨rfl, hb2⟩
  have p_2 := p_1.next hb2
  have L_2 := hL.below p_2.bel hL.two
  clear hb2 p_1 L_1 e0 e1
  have e0 := p_2.c0
  have e1 := p_2.c1
  have HB := hidIt p_2.bel
  clear p_2 L_2 dF
  go_wp2_with (fail)
  go_ret
  exact ⟨rfl, HB.out⟩
theorem obinds_walk (b s : Int) (sd dig oth : ByteArray) (w : World) (hL : LaidH w) (_h0 : (Lit.int .i64 b).wf = true) (_h1 : (Lit.int .i64 s).wf = true) (_h2 : sd.size ≤ maxLen) (_h3 : dig.size ≤ maxLen) (_h4 : oth.size ≤ maxLen) :
    Calls Tryd.prog 11 #[.agg #[.int .i64 b, .int .i64 s], .string sd, .string dig, .string oth] w fun e w' => e = .returned (.bool true) ∧ Below w.heap.size w w' := by
  by_cases hf : Fits b s sd dig
  · by_cases hos : (oth.size : Int) = s
    · by_cases he : oth = dig
      · exact obinds_eq b s sd dig oth hf hos he w hL
      · obtain ⟨b', s', rfl, rfl, _⟩ := okZ_of hf.1
        exact obinds_ok b' s' sd dig oth hf hos he w hL
    · exact obinds_len b s sd dig oth hf hos w hL
  · exact obinds_no b s sd dig oth hf w hL
end Go.Proofs.YtegfbmekpmdcaaaDoor
