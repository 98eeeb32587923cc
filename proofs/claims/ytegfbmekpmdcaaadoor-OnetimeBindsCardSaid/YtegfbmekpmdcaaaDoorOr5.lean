import Derived.Test.YtegfbmekpmdcaaaDoorOr4
namespace Go.Proofs.YtegfbmekpmdcaaaDoor
open Go.RowKit
/-- a slice of strings that is read -/
structure RdS (w : World) (a : Option Addr) (n cap : Nat) (ss : List ByteArray) : Prop where
  len : n = ss.length
  cap : n ≤ cap
  at' : Strs w a ss
set_option maxRecDepth 100000 in
set_option maxHeartbeats 1000000 in
theorem refsign_any (b s : Nat) (ho : Ot.okB b s = true) (sd : ByteArray) (ks : List Nat) (hk : Hid (ofStr sd = ks)) (hkl : ks.length ≤ 1200) (dig : ByteArray) (xs : List Nat) (hx : Hid (ofStr dig = xs)) (hsz : (dig.size : Int) = (s : Int)) (w : World) :
    Calls Tryd.prog 32 #[.agg #[.int .i64 (b : Int), .int .i64 (s : Int)], .string sd, .string dig] w fun e w' => RSt e w' ((List.range (Ot.tot b s)).map (fun i => Ot.vl ks i (Ot.dgs b s xs i))) (Ot.tot b s) ∧ Below w.heap.size w w' := by
  have hn9 := (Ot.tot_bd b s ho).2
  have dD : Hid (∀ W, Calls Tryd.prog 21 #[.agg #[.int .i64 (b : Int), .int .i64 (s : Int)], .string dig] W fun e w' => RdI W e w' (Ot.dgs b s xs) (Ot.tot b s) ∧ Below W.heap.size W w') := fun W => refdigits_any b s ho dig xs hx hsz W
  have dS : Hid (∀ W, Calls Tryd.prog 56 #[.agg #[.int .i64 (b : Int), .int .i64 (s : Int)], .string sd] W fun e w' => RSt e w' ((List.range (Ot.tot b s)).map (Ot.sec ks)) (Ot.tot b s) ∧ Below W.heap.size W w') := fun W => refstart_any b s ho sd ks hk hkl W
  have hFl : Hid (∀ i, Ot.dgs b s xs i ≤ 255) := fun i => Nat.le_trans (Ot.dgs_le b s xs i) (Ot.las_bd b s ho).2.1
  obtain ⟨n, hn⟩ : ∃ n, Hid (Ot.tot b s = n) := ⟨_, rfl⟩
  obtain ⟨F, hF⟩ : ∃ F, Hid (Ot.dgs b s xs = F) := ⟨_, rfl⟩
  obtain ⟨P, hP⟩ : ∃ P : Nat → ByteArray, Hid ((fun i => Ot.vl ks i (F i)) = P) := ⟨_, rfl⟩
  obtain ⟨L, hL⟩ : ∃ L, Hid ((List.range n).map (Ot.sec ks) = L) := ⟨_, rfl⟩
  have hLl : Hid (L.length = n) := by show _ = _; rw [← hL.out]; simp
  have hget : Hid (∀ i, i < n → L.getD i ByteArray.empty = Ot.sec ks i) := fun i hi => by
    rw [← hL.out, List.getD_eq_getElem?_getD, List.getElem?_map, List.getElem?_range hi]; rfl
  have dC : Hid (∀ (i : Nat) W, i ≤ 999 → Calls Tryd.prog 26 #[.int .i64 (i : Int), .int .i64 0, .int .i64 (F i : Int), .string (Ot.sec ks i)] W fun e w' => e = .returned (.string (P i)) ∧ Below W.heap.size W w') := fun i W hi => by
    have := refchain_any i 0 (F i) hi (Nat.zero_le _) (by rw [← hF.out]; exact hFl.out i) (Ot.sec ks i) (Ot.sec_size _ _) W
    rw [Nat.sub_zero] at this
    rw [← hP.out]; exact this
  rw [hn.out, hF.out] at dD
  rw [hn.out, hL.out] at dS
  rw [hn.out] at hn9
  rw [hF.out, hP.out, hn.out]
  have p0 := rs_new w (b : Int) (s : Int)
  have e0 := p0.c0
  have e1 := p0.c1
  clear hn hF hP hL hk hx hsz ho hFl
  go_enter Tryd.func32, Tryd.ntmps32
  go_wp2_with (fail)
  refine (dD.out _).mono ?_
  rintro e w2 ⟨⟨ad, cd, rfl, hI, hcd⟩, hb2⟩
  have p2 := p0.next hb2
  have hI2 := hidIt hI
  clear p0 hb2 hI e0 e1
  have e0 := p2.c0
  have e1 := p2.c1
  go_wp2_with (fail)
  refine (dS.out _).mono ?_
  rintro e w3 ⟨⟨ast, cst, rfl, hSt, hcs⟩, hb3⟩
  have H3 := hidIt (p2.next hb3).bel
  have hI3 := hidIt (hI2.out.below hb3)
  have hS3 := hidIt hSt
  clear p2 hb3 hI2 hSt e0 e1 dD dS
  go_wp2_with (fail)
  obtain ⟨wo, rfl⟩ : ∃ wo : World, wo = w3 := ⟨_, rfl⟩
  go_loopw [18, 8] (fun i v wr => ∃ k : Nat, i = .int .i64 (k : Int) ∧ k ≤ n ∧ Below wo.heap.size wo wr ∧ wr.ownsRow wo.heap.size 9 1 v k (svals ((List.range k).map P))) (fun i _ _ => n - (intOf i).toNat)
  case atStart => exact ⟨0, rfl, by omega, Below.refl _ _, ⟨rfl, .inl ⟨rfl, rfl⟩⟩⟩
  case round =>
    obtain ⟨k, rfl, hk, hb, hown⟩ := hrel
    by_cases hlt : k < n
    · obtain ⟨b1, o1, rfl, q1⟩ := hI3.out k hlt
      obtain ⟨b2, o2, rfl, q2⟩ := hS3.out k (by rw [hLl.out]; exact hlt)
      rw [hget.out k hlt] at q2
      have c1 : wr.cell? ⟨b1, o1 + k, none⟩ = some (.int .i64 (F k : Int)) := (hb.cell (p := ⟨b1, o1 + k, none⟩) (bytes_lt q1)).trans q1
      have c2 : wr.cell? ⟨b2, o2 + k, none⟩ = some (.string (Ot.sec ks k)) := (hb.cell (p := ⟨b2, o2 + k, none⟩) (bytes_lt q2)).trans q2
      obtain ⟨d, hd⟩ : ∃ d, Hid (F k = d) := ⟨_, rfl⟩
      obtain ⟨x, hx⟩ : ∃ x, Hid (Ot.sec ks k = x) := ⟨_, rfl⟩
      obtain ⟨y, hy⟩ : ∃ y, Hid (P k = y) := ⟨_, rfl⟩
      have dCk : Hid (∀ W, Calls Tryd.prog 26 #[.int .i64 (k : Int), .int .i64 0, .int .i64 (d : Int), .string x] W fun e w' => e = .returned (.string y) ∧ Below W.heap.size W w') := fun W => by
        have := dC.out k W (by omega)
        rwa [hd.out, hx.out, hy.out] at this
      rw [hd.out] at c1
      rw [hx.out] at c2
      have hown' := hidIt hown
      have hb' := hidIt hb
      clear hown hb q1 q2 hd hx
      go_wp2_with (fail)
      refine (dCk.out _).mono ?_
      rintro e w9 ⟨rfl, hb9⟩
      have hbA : Below w9.heap.size w9 (w9.alloc (.cells #[.string y] 9)) := (Below.refl _ _).alloc (Nat.le_refl _) _
      have own9 := hidIt (own_belowS (own_belowS hown'.out hb9) hbA)
      have H9 := hidIt (below_then (below_then hb'.out hb9) hbA)
      clear hb9 hbA hown' hb' c1 c2
      go_wp2_with (at_builtin; refine wpList_snoc_str _ rfl _ _ rfl wo.heap.size _ k ((List.range k).map P) rfl own9.out w9.heap.size y rfl (str_new w9 y) (by omega) H9.out.size ?_)
      intro v11 w11 own11 hb11
      have H11 := hidIt (H9.out.trans hb11)
      rw [← hy.out, ← range_snoc] at own11
      have own11' := hidIt own11
      clear own11 hb11 own9
      go_wp2_with (fail)
      go_roundw
      case rel => exact ⟨k + 1, by go_num, by omega, H11.out, own11'.out⟩
      case measure => simp [intOf]; omega
    · have hkn : Hid (k = n) := by show _ = _; omega
      rw [hkn.out] at hown
      obtain ⟨a, cap, rfl, hcap, hst, _⟩ := owned_strs hown (by simp)
      have hln : ((List.range n).map P).length = n := by simp
      rw [hln] at hcap
      rw [hln]
      have HB := hidIt (below_then H3.out hb)
      have hst2 := hidIt hst
      clear hown hst hln hkn hb
      go_wp2_with (fail)
      go_ret
      exact ⟨⟨a, cap, rfl, hst2.out, hcap⟩, HB.out⟩
set_option maxRecDepth 100000 in
set_option maxHeartbeats 1000000 in
theorem refparts_any (b s : Nat) (ho : Ot.okB b s = true) (a : Option Addr) (n cap : Nat) (ss : List ByteArray) (hn : n = ss.length) (hn9 : n ≤ 1000000) (v : Bool) (hv : Hid (v = true ↔ (∀ i, i < n → (ss.getD i ByteArray.empty).size = 32) ∧ n = Ot.tot b s)) (w : World) (hSt : Strs w a ss) :
    Calls Tryd.prog 35 #[.agg #[.int .i64 (b : Int), .int .i64 (s : Int)], .slice a n cap] w fun e w' => e = .returned (.bool v) ∧ Below w.heap.size w w' := by
  have d1 : Hid (∀ W, Calls Tryd.prog 19 #[.agg #[.int .i64 (b : Int), .int .i64 (s : Int)]] W fun e w' => e = .returned (.int .i64 (Ot.mn b s : Int)) ∧ Below W.heap.size W w') := fun W => refmain_any b s ho W
  have d3 : Hid (∀ W, Calls Tryd.prog 20 #[.agg #[.int .i64 (b : Int), .int .i64 (s : Int)]] W fun e w' => e = .returned (.int .i64 (Ot.cd b s : Int)) ∧ Below W.heap.size W w') := fun W => refcheck_any b s ho W
  have ht9 := (Ot.tot_bd b s ho).2
  obtain ⟨t, ht⟩ : ∃ t, Hid (Ot.tot b s = t) := ⟨_, rfl⟩
  obtain ⟨c, hcd⟩ : ∃ c, Hid (Ot.cd b s = c) := ⟨_, rfl⟩
  obtain ⟨m, hmn⟩ : ∃ m, Hid (Ot.mn b s = m) := ⟨_, rfl⟩
  have hnm : (m : Int) + (c : Int) = (t : Int) := by rw [← ht.out, ← hmn.out, ← hcd.out]; unfold Ot.tot; push_cast; rfl
  rw [ht.out] at ht9 hv
  rw [hcd.out] at d3
  rw [hmn.out] at d1
  have hwr : IntKind.i64.wrap (t : Int) = (t : Int) := IntWalk.i64_in _ (by omega)
  have hS' : Hid (∀ i, i < n → ∃ b off, a = some ⟨b, off, none⟩ ∧ w.cell? ⟨b, off + i, none⟩ = some (.string (ss.getD i ByteArray.empty))) := fun i hi => hSt i (by omega)
  have p0 := rs_new w (b : Int) (s : Int)
  obtain ⟨w1, hw1⟩ : ∃ w1, Hid (w.alloc (.cells #[.int .i64 (b : Int), .int .i64 (s : Int)] 23) = w1) := ⟨_, rfl⟩
  obtain ⟨G, hG⟩ : ∃ G, Hid (w.heap.size = G) := ⟨_, rfl⟩
  rw [hw1.out, hG.out] at p0
  clear hn hSt ht hcd hmn ho
  go_enter Tryd.func35, Tryd.ntmps35
  go_wp2_with (fail)
  rw [hw1.out]
  try rw [hG.out]
  clear hw1
  go_loop [9] (fun i => ∃ k : Nat, i = .int .i64 (k : Int) ∧ k ≤ n ∧ Hid (∀ j, j < k → (ss.getD j ByteArray.empty).size = 32)) (fun i => n - (intOf i).toNat)
  case atStart => exact ⟨0, rfl, by omega, fun j hj => by omega⟩
  case round =>
    obtain ⟨k, rfl, hk, hal⟩ := hrel
    by_cases hlt : k < n
    · obtain ⟨b1, o1, rfl, q1⟩ := hS'.out k hlt
      have c1 : w1.cell? ⟨b1, o1 + k, none⟩ = some (.string (ss.getD k ByteArray.empty)) := (p0.bel.cell (p := ⟨b1, o1 + k, none⟩) (bytes_lt q1)).trans q1
      obtain ⟨x, hx⟩ : ∃ x, Hid (ss.getD k ByteArray.empty = x) := ⟨_, rfl⟩
      rw [hx.out] at c1
      have HB := hidIt p0.bel
      by_cases h32 : x.size = 32
      · have hal2 : Hid (∀ j, j < k + 1 → (ss.getD j ByteArray.empty).size = 32) := fun j hj => by
          by_cases h : j = k
          · subst h; rw [hx.out]; exact h32
          · exact hal.out j (by omega)
        have t1 : (x.size : Int) = 32 := by omega
        have p0' := hidIt p0
        clear p0 q1 hal hx h32 hv
        go_wp2
        go_round
        case rel => exact ⟨k + 1, by go_num, by omega, hal2⟩
        case measure => simp [intOf]; omega
      · have hvf : Hid (v = false) := Bool.eq_false_iff.2 fun h => h32 (by have := (hv.out.1 h).1 k hlt; rwa [hx.out] at this)
        have t1 : ¬ (x.size : Int) = 32 := by omega
        clear p0 q1 hal hx h32 hv
        go_wp2
        go_ret
        exact ⟨by rw [hvf.out]; rfl, HB.out⟩
    · have hv2 : Hid (v = true ↔ n = t) := by
        show _ ↔ _
        rw [hv.out]
        exact ⟨fun h => h.2, fun h => ⟨fun i hi => hal.out i (by omega), h⟩⟩
      have hv3 : Hid (decide (n = t) = v) := by
        show _ = _
        rw [Bool.eq_iff_iff, hv2.out, decide_eq_true_iff]
      have e0 := p0.c0
      have e1 := p0.c1
      have p0' := hidIt p0
      clear hal hv hv2
      by_cases hnt : n = t
      · have hvt : Hid (v = true) := by show _ = _; rw [← hv3.out]; simpa using hnt
        have t1 : ((n : Int) == (t : Int)) = true := by simp; omega
        clear hv3
        go_wp2
        go_region_held3 (fun W' => PS w G (b : Int) (s : Int) W' ∧ W'.cell? ⟨G, 0, none⟩ = some (.int .i64 (b : Int)) ∧ W'.cell? ⟨G, 1, none⟩ = some (.int .i64 (s : Int)))
          (first
            | exact PS.all (by assumption)
            | (go_split_ands; exact PS.all (by assumption))
            | (go_split_ands; exact PS.all (PS.drew (by assumption)))
            | (go_split_ands; exact PS.all (PS.behind (by assumption) (by assumption))))
          (first
            | (go_at_call 19; (with_reducible refine Calls.mono (d1.out _) ?_); rintro e w7 ⟨rfl, hb7⟩)
            | (go_at_call 20; (with_reducible refine Calls.mono (d3.out _) ?_); rintro e w8 ⟨rfl, hb8⟩))
        all_goals
          go_split_ands
          have hS8 : PS w G (b : Int) (s : Int) w8 := by assumption
          have HB := hidIt hS8.bel
          clear hS8 p0 e0 e1
          go_wp2
          go_ret
          exact ⟨by rw [hvt.out]; rfl, HB.out⟩
      · have hvt : Hid (v = false) := by show _ = _; rw [← hv3.out]; simpa using hnt
        have t1 : ((n : Int) == (t : Int)) = false := by simp; omega
        clear hv3
        go_wp2
        go_region_held3 (fun W' => PS w G (b : Int) (s : Int) W' ∧ W'.cell? ⟨G, 0, none⟩ = some (.int .i64 (b : Int)) ∧ W'.cell? ⟨G, 1, none⟩ = some (.int .i64 (s : Int)))
          (first
            | exact PS.all (by assumption)
            | (go_split_ands; exact PS.all (by assumption))
            | (go_split_ands; exact PS.all (PS.drew (by assumption)))
            | (go_split_ands; exact PS.all (PS.behind (by assumption) (by assumption))))
          (first
            | (go_at_call 19; (with_reducible refine Calls.mono (d1.out _) ?_); rintro e w7 ⟨rfl, hb7⟩)
            | (go_at_call 20; (with_reducible refine Calls.mono (d3.out _) ?_); rintro e w8 ⟨rfl, hb8⟩))
        all_goals
          go_split_ands
          have hS8 : PS w G (b : Int) (s : Int) w8 := by assumption
          have HB := hidIt hS8.bel
          clear hS8 p0 e0 e1
          go_wp2
          go_ret
          exact ⟨by rw [hvt.out]; rfl, HB.out⟩
set_option maxRecDepth 100000 in
set_option maxHeartbeats 1000000 in
theorem refrecover_any (b s : Nat) (ho : Ot.okB b s = true) (dig : ByteArray) (xs : List Nat) (hx : Hid (ofStr dig = xs)) (hsz : (dig.size : Int) = (s : Int)) (a : Option Addr) (n cap : Nat) (ss : List ByteArray) (hn : n = ss.length) (hnt : n = Ot.tot b s) (h32 : ∀ i, i < n → (ss.getD i ByteArray.empty).size = 32) (w : World) (hSt : Strs w a ss) :
    Calls Tryd.prog 36 #[.agg #[.int .i64 (b : Int), .int .i64 (s : Int)], .string dig, .slice a n cap] w fun e w' => e = .returned (.string (Ot.rcv b s (Ot.dgs b s xs) ss)) ∧ Below w.heap.size w w' := by
  have hn9 := (Ot.tot_bd b s ho).2
  rw [← hnt] at hn9
  obtain ⟨us, hus⟩ : ∃ us, Hid (Ot.endsTo (Ot.goE b (Ot.dgs b s xs) ss) n = us) := ⟨_, rfl⟩
  obtain ⟨z, hz⟩ : ∃ z, Hid (str us = z) := ⟨_, rfl⟩
  obtain ⟨r, hr⟩ : ∃ r, Hid (Ot.rcv b s (Ot.dgs b s xs) ss = r) := ⟨_, rfl⟩
  have hfin : Hid (str (Sh.sum us) = r) := by show _ = _; rw [← hr.out, Ot.rcv_goE, ← hnt, hus.out]
  have hulen : us.length ≤ 9000 := by
    rw [← hus.out, Ot.endsTo_len (E := Ot.goE b (Ot.dgs b s xs) ss) n (fun i hi => Ot.chn_size _ _ _ _ (h32 i hi))]; omega
  have hof : Hid (ofStr z = us) := by show _ = _; rw [← hz.out, ofStr_str _ (by rw [← hus.out]; exact Ot.endsTo_lt n)]
  have dD : Hid (∀ W, Calls Tryd.prog 21 #[.agg #[.int .i64 (b : Int), .int .i64 (s : Int)], .string dig] W fun e w' => RdI W e w' (Ot.dgs b s xs) n ∧ Below W.heap.size W w') := fun W => by
    have := refdigits_any b s ho dig xs hx hsz W
    rwa [← hnt] at this
  have dE : Hid (∀ W a1 c1, Ints W a1 n (Ot.dgs b s xs) → Strs W a ss → Calls Tryd.prog 57 #[.agg #[.int .i64 (b : Int), .int .i64 (s : Int)], .slice a1 n c1, .slice a n cap] W fun e w' => e = .returned (.string z) ∧ Below W.heap.size W w') := fun W a1 c1 h1 h2 => by
    have := refends_any b s ho a1 a n c1 cap (Ot.dgs b s xs) ss hn (by omega) (fun i _ => Ot.dgs_le b s xs i) h32 W h1 h2
    rwa [hus.out, hz.out] at this
  have dU : Hid (∀ W, Calls Tryd.prog 51 #[.slice (some ⟨W.heap.size, 0, none⟩) z.size (cvC z W)] (cvW z W) fun e w' => e = .returned (.string r) ∧ Below (cvW z W).heap.size (cvW z W) w') := fun W => hfin.out ▸ refsumW z us hof hulen W
  have kv := fun W => (cv_all z W).1
  obtain ⟨F, hF⟩ : ∃ F, Hid (Ot.dgs b s xs = F) := ⟨_, rfl⟩
  rw [hF.out] at dD dE
  rw [hr.out]
  have p0 := rs_new w (b : Int) (s : Int)
  have Z0 : ZS w w.heap.size (b : Int) (s : Int) a ss (w.alloc (.cells #[.int .i64 (b : Int), .int .i64 (s : Int)] 23)) := ⟨p0, hSt.below p0.bel⟩
  obtain ⟨w1, hw1⟩ : ∃ w1, Hid (w.alloc (.cells #[.int .i64 (b : Int), .int .i64 (s : Int)] 23) = w1) := ⟨_, rfl⟩
  obtain ⟨G, hG⟩ : ∃ G, Hid (w.heap.size = G) := ⟨_, rfl⟩
  rw [hw1.out, hG.out] at Z0
  have e0 := Z0.ps.c0
  have e1 := Z0.ps.c1
  have Z1 := hidIt Z0.drew
  clear hfin hof hus hz hr hF hx ho hulen hsz hn hnt h32 hSt p0 Z0
  go_enter Tryd.func36, Tryd.ntmps36
  go_wp2_with (fail)
  rw [hw1.out]
  try rw [hG.out]
  clear hw1
  go_region_law (first
    | (go_simp; go_at_call 21; refine Calls.mono (dD.out _) ?_; rintro e w6 ⟨⟨a1, c1, rfl, hI, hc1⟩, hb6⟩; have e0' := (Z1.out.behind hb6).ps.c0; have e1' := (Z1.out.behind hb6).ps.c1)
    | (go_simp; go_at_call 57; refine Calls.mono (dE.out _ _ _ hI (Z1.out.behind hb6).st) ?_; rintro e w7 ⟨rfl, hb7⟩)
    | (go_simp; go_at_call 51; refine Calls.mono (dU.out _) ?_; rintro e w8 ⟨rfl, hb8⟩))
  all_goals
    have HB := hidIt ((((Z1.out.behind hb6).behind hb7).cv z).behind hb8).ps.bel
    clear e0 e1 e0' e1' kv hb6 hb7 hb8
    go_wp2_with (fail)
    go_ret
    exact ⟨rfl, HB.out⟩
end Go.Proofs.YtegfbmekpmdcaaaDoor
