import Derived.Test.YtegfbmekpmdcaaaDoorOl2
namespace Go.Proofs.YtegfbmekpmdcaaaDoor
open Go.RowKit
set_option maxRecDepth 100000 in
set_option maxHeartbeats 2000000 in
theorem overifies_ok (b s : Nat) (sd dig oth : ByteArray) (hf : Fits (b : Int) (s : Int) sd dig) (w : World) (hL : LaidH w) :
    Calls Tryd.prog 7 #[.agg #[.int .i64 (b : Int), .int .i64 (s : Int)], .string sd, .string dig, .string oth] w fun e w' => e = .returned (.bool true) ∧ Below w.heap.size w w' := by
  have ho : Ot.okB b s = true := by rw [← okZ_nat]; exact hf.1
  have h32 := hf.2.2.1
  have hds := hf.2.2.2
  have dF : Hid (∀ W, Calls Tryd.prog 37 #[.agg #[.int .i64 (b : Int), .int .i64 (s : Int)], .string sd, .string dig] W fun e w' => e = .returned (.bool true) ∧ Below W.heap.size W w') := fun W => fits_t _ _ sd dig hf W
  have dP : Hid (∀ W, Calls Tryd.prog 13 #[.agg #[.int .i64 (b : Int), .int .i64 (s : Int)]] W fun e w' => e = .returned (.agg #[.int .i64 (b : Int), .int .i64 (s : Int)]) ∧ Below W.heap.size W w') := fun W => params_any _ _ W
  obtain ⟨ks, hks⟩ : ∃ ks, Hid (ofStr sd = ks) := ⟨_, rfl⟩
  obtain ⟨xs, hxs⟩ : ∃ xs, Hid (ofStr dig = xs) := ⟨_, rfl⟩
  obtain ⟨n, hn⟩ : ∃ n, Hid (Ot.tot b s = n) := ⟨_, rfl⟩
  obtain ⟨F, hF⟩ : ∃ F, Hid (Ot.dgs b s xs = F) := ⟨_, rfl⟩
  obtain ⟨K, hK⟩ : ∃ K, Hid (Ot.pub b s ks = K) := ⟨_, rfl⟩
  obtain ⟨P, hP⟩ : ∃ P : Nat → ByteArray, Hid ((fun i => Ot.vl ks i (F i)) = P) := ⟨_, rfl⟩
  have hPi : ∀ i, P i = Ot.vl ks i (F i) := fun i => by rw [← hP.out]
  have hn9 := Ot.tot_bd b s ho
  have hget : ∀ i, i < n → ((List.range n).map P).getD i ByteArray.empty = P i := fun i hi => by
    rw [List.getD_eq_getElem?_getD, List.getElem?_map, List.getElem?_range hi]; rfl
  have hrc : Ot.rcv b s (Ot.dgs b s xs) ((List.range n).map P) = K := by
    rw [← hK.out]
    exact Ot.rcv_signed b s _ (Ot.dgs_le b s _) ks _ (fun i hi => by
      rw [hn.out] at hi
      rw [hget i hi, hPi, hF.out])
  have hlen : n = ((List.range n).map P).length := by simp
  have hss : Hid (((List.range n).map P).length = Ot.tot b s) := hidIt (by rw [hn.out]; simp)
  have hall : Hid (∀ i, i < ((List.range n).map P).length → (((List.range n).map P).getD i ByteArray.empty).size = 32) := hidIt (fun i hi => by
    rw [hget i (by simpa using hi), hPi]; exact Ot.vl_size _ _ _)
  have dK : Hid (∀ W, LaidH W → Calls Tryd.prog 28 #[.agg #[.int .i64 (b : Int), .int .i64 (s : Int)], .string sd] W fun e w' => e = .returned (.tuple #[.string K, .int .i64 0]) ∧ Below W.heap.size W w') := fun W hW => hK.out ▸ public_ok b s ho sd ks hks h32 W hW
  have dS : Hid (∀ W, LaidH W → Calls Tryd.prog 29 #[.agg #[.int .i64 (b : Int), .int .i64 (s : Int)], .string sd, .string dig] W fun e w' => SigOk W e w' P n ∧ Below W.heap.size W w') := fun W hW => by
    have := sign_ok b s ho sd ks hks h32 dig xs hxs hds W hW
    rwa [hn.out, hF.out, hP.out] at this
  have dR : Hid (∀ W a, LaidH W → Strs W a ((List.range n).map P) → Calls Tryd.prog 33 #[.agg #[.int .i64 (b : Int), .int .i64 (s : Int)], .string dig, .slice a n n] W fun e w' => e = .returned (.tuple #[.string K, .int .i64 0]) ∧ Below W.heap.size W w') := fun W a hW hS => by
    have := recover_ok b s ho dig xs hxs hds a n n _ hlen hss hall W hW hS
    rwa [hrc] at this
  have dC : Hid (∀ W, Calls Tryd.prog 18 #[.agg #[.int .i64 (b : Int), .int .i64 (s : Int)]] W fun e w' => e = .returned (.int .i64 (n : Int)) ∧ Below W.heap.size W w') := fun W => hn.out ▸ chains_ok b s ho W
  have dV : Hid (∀ W a, LaidH W → Strs W a ((List.range n).map P) → Calls Tryd.prog 34 #[.agg #[.int .i64 (b : Int), .int .i64 (s : Int)], .string K, .string dig, .slice a n n] W fun e w' => e = .returned (.bool true) ∧ Below W.heap.size W w') := fun W a hW hS =>
    verify_ok b s ho dig xs hxs hds a n n _ hlen hss hall K true (hidIt (by rw [hrc]; simp)) W hW hS
  obtain ⟨v, hv⟩ : ∃ v : Bool, Hid ((oth.toList == K.toList) = v) := ⟨_, rfl⟩
  have hvk : v = true ↔ K = oth := by
    by_cases h : oth = K
    · subst h; rw [← hv.out]; simp
    · rw [← hv.out, (str_bne h).2]; simp; exact fun e => h e.symm
  have dO : Hid (∀ W a, LaidH W → Strs W a ((List.range n).map P) → Calls Tryd.prog 34 #[.agg #[.int .i64 (b : Int), .int .i64 (s : Int)], .string oth, .string dig, .slice a n n] W fun e w' => e = .returned (.bool v) ∧ Below W.heap.size W w') := fun W a hW hS =>
    verify_ok b s ho dig xs hxs hds a n n _ hlen hss hall oth v (hidIt (by rw [hrc]; exact hvk)) W hW hS
  have t1 : (K.toList == K.toList) = true := by simp
  have t2 : (oth.toList == K.toList) = v := hv.out
  have p0 := rs_new w (b : Int) (s : Int)
  have e0 := p0.c0
  have e1 := p0.c1
  have L0 := hL.below p0.bel hL.two
  clear hrc hlen hss hall hget hPi hK hP hF hn hxs hks hv hvk ho h32 hds hf hn9
  go_enter Tryd.func7, Tryd.ntmps7
  go_wp2_with (fail)
  refine (awake_any _ L0).mono ?_
  rintro e w1 ⟨rfl, hb1⟩
  have p_1 := p0.next hb1
  have L_1 := hL.below p_1.bel hL.two
  clear hb1 p0 L0 e0 e1
  have e0 := p_1.c0
  have e1 := p_1.c1
  go_wp2_with (fail)
  refine (dF.out _).mono ?_
  rintro e w2 ⟨rfl, hb2⟩
  have p_2 := p_1.next hb2
  have L_2 := hL.below p_2.bel hL.two
  clear hb2 p_1 L_1 e0 e1
  have e0 := p_2.c0
  have e1 := p_2.c1
  go_wp2_with (fail)
  refine (dP.out _).mono ?_
  rintro e w3 ⟨rfl, hb3⟩
  have p_3 := p_2.next hb3
  have L_3 := hL.below p_3.bel hL.two
  clear hb3 p_2 L_2 e0 e1
  have e0 := p_3.c0
  have e1 := p_3.c1
  go_wp2_with (fail)
  refine (dK.out _ L_3).mono ?_
  rintro e w4 ⟨rfl, hb4⟩
  have p_4 := p_3.next hb4
  have L_4 := hL.below p_4.bel hL.two
  clear hb4 p_3 L_3 e0 e1
  have e0 := p_4.c0
  have e1 := p_4.c1
  go_wp2_with (fail)
  refine (dP.out _).mono ?_
  rintro e w5 ⟨rfl, hb5⟩
  have p_5 := p_4.next hb5
  have L_5 := hL.below p_5.bel hL.two
  clear hb5 p_4 L_4 e0 e1
  have e0 := p_5.c0
  have e1 := p_5.c1
  go_wp2_with (fail)
  refine (dS.out _ L_5).mono ?_
  rintro e w6 ⟨⟨gs, hgs, rfl, hS⟩, hb6⟩
  have p_6 := p_5.next hb6
  have hS_6 := hidIt (hS)
  have L_6 := hL.below p_6.bel hL.two
  clear hb6 p_5 L_5 e0 e1
  have e0 := p_6.c0
  have e1 := p_6.c1
  clear hgs hS
  go_wp2_with (fail)
  refine (dP.out _).mono ?_
  rintro e w7 ⟨rfl, hb7⟩
  have p_7 := p_6.next hb7
  have hS_7 := hidIt (hS_6.out.below hb7)
  have L_7 := hL.below p_7.bel hL.two
  clear hb7 p_6 hS_6 L_6 e0 e1
  have e0 := p_7.c0
  have e1 := p_7.c1
  go_wp2_with (fail)
  refine (dR.out _ _ L_7 hS_7.out).mono ?_
  rintro e w8 ⟨rfl, hb8⟩
  have p_8 := p_7.next hb8
  have hS_8 := hidIt (hS_7.out.below hb8)
  have L_8 := hL.below p_8.bel hL.two
  clear hb8 p_7 hS_7 L_7 e0 e1
  have e0 := p_8.c0
  have e1 := p_8.c1
  go_wp2_with (fail)
  refine (dP.out _).mono ?_
  rintro e w9 ⟨rfl, hb9⟩
  have p_9 := p_8.next hb9
  have hS_9 := hidIt (hS_8.out.below hb9)
  have L_9 := hL.below p_9.bel hL.two
  clear hb9 p_8 hS_8 L_8 e0 e1
  have e0 := p_9.c0
  have e1 := p_9.c1
  go_wp2_with (fail)
  refine (dC.out _).mono ?_
  rintro e w10 ⟨rfl, hb10⟩
  have p_10 := p_9.next hb10
  have hS_10 := hidIt (hS_9.out.below hb10)
  have L_10 := hL.below p_10.bel hL.two
  clear hb10 p_9 hS_9 L_9 e0 e1
  have e0 := p_10.c0
  have e1 := p_10.c1
  go_wp2_with (fail)
  refine (dP.out _).mono ?_
  rintro e w11 ⟨rfl, hb11⟩
  have p_11 := p_10.next hb11
  have hS_11 := hidIt (hS_10.out.below hb11)
  have L_11 := hL.below p_11.bel hL.two
  clear hb11 p_10 hS_10 L_10 e0 e1
  have e0 := p_11.c0
  have e1 := p_11.c1
  go_wp2_with (fail)
  refine (dV.out _ _ L_11 hS_11.out).mono ?_
  rintro e w12 ⟨rfl, hb12⟩
  have p_12 := p_11.next hb12
  have hS_12 := hidIt (hS_11.out.below hb12)
  have L_12 := hL.below p_12.bel hL.two
  clear hb12 p_11 hS_11 L_11 e0 e1
  have e0 := p_12.c0
  have e1 := p_12.c1
  go_wp2_with (fail)
  refine (dP.out _).mono ?_
  rintro e w13 ⟨rfl, hb13⟩
  have p_13 := p_12.next hb13
  have hS_13 := hidIt (hS_12.out.below hb13)
  have L_13 := hL.below p_13.bel hL.two
  clear hb13 p_12 hS_12 L_12 e0 e1
  have e0 := p_13.c0
  have e1 := p_13.c1
  go_wp2_with (fail)
  refine (dO.out _ _ L_13 hS_13.out).mono ?_
  rintro e w14 ⟨rfl, hb14⟩
  have p_14 := p_13.next hb14
  have hS_14 := hidIt (hS_13.out.below hb14)
  have L_14 := hL.below p_14.bel hL.two
  clear hb14 p_13 hS_13 L_13 e0 e1
  have e0 := p_14.c0
  have e1 := p_14.c1
  cases v
  all_goals
    have HB := hidIt p_14.bel
    clear p_14 e0 e1 L_14 dF dP dK dS dR dC dV dO
    go_wp2_with (fail)
    go_ret
    exact ⟨rfl, HB.out⟩
set_option maxRecDepth 100000 in
theorem overifies_walk (b s : Int) (sd dig oth : ByteArray) (w : World) (hL : LaidH w) (_h0 : (Lit.int .i64 b).wf = true) (_h1 : (Lit.int .i64 s).wf = true) (_h2 : sd.size ≤ maxLen) (_h3 : dig.size ≤ maxLen) (_h4 : oth.size ≤ maxLen) :
    Calls Tryd.prog 7 #[.agg #[.int .i64 b, .int .i64 s], .string sd, .string dig, .string oth] w fun e w' => e = .returned (.bool true) ∧ Below w.heap.size w w' := by
  clear _h0 _h1 _h2 _h3 _h4
  by_cases hf : Fits b s sd dig
  · obtain ⟨b', s', rfl, rfl, _⟩ := okZ_of hf.1
    exact overifies_ok b' s' sd dig oth hf w hL
  · have p0 := rs_new w b s
    have e0 := p0.c0
    have e1 := p0.c1
    have L0 := hL.below p0.bel hL.two
    have dF : Hid (∀ W, Calls Tryd.prog 37 #[.agg #[.int .i64 b, .int .i64 s], .string sd, .string dig] W fun e w' => e = .returned (.bool false) ∧ Below W.heap.size W w') := fun W => fits_f _ _ sd dig hf W
    clear hf
    go_enter Tryd.func7, Tryd.ntmps7
    go_wp2_with (fail)
    refine (awake_any _ L0).mono ?_
    rintro e w1 ⟨rfl, hb1⟩
    have p_1 := p0.next hb1
    have L_1 := hL.below p_1.bel hL.two
    clear hb1 p0 L0 e0 e1
    have e0 := p_1.c0
    have e1 := p_1.c1
    go_wp2_with (fail)
    refine (dF.out _).mono ?_
    rintro e w2 ⟨rfl, hb2⟩
    have p_2 := p_1.next hb2
    have L_2 := hL.below p_2.bel hL.two
    clear hb2 p_1 L_1 e0 e1
    have e0 := p_2.c0
    have e1 := p_2.c1
    have HB := hidIt p_2.bel
    clear p_2 e0 e1 L_2 dF
    go_wp2_with (fail)
    go_ret
    exact ⟨rfl, HB.out⟩
end Go.Proofs.YtegfbmekpmdcaaaDoor
