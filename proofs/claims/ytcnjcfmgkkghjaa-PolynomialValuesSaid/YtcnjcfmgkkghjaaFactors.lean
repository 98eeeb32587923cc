import Derived.Test.YtcnjcfmgkkghjaaPlFac
import Derived.Test.YtcnjcfmgkkghjaaFromR
import Derived.Test.YtcnjcfmgkkghjaaDerives
namespace Go.Proofs.Ytcnjcfmgkkghjaa
open Go.RowKit
theorem many1_any (w : World) (a0 : Option Addr) (l0 c0 : Nat) (t : TypeId) (v : Bool) (hv : decide (30 < l0) = v) :
    Calls Try.prog 25 #[.slice (some ⟨w.heap.size, 0, none⟩) 1 1] (w.alloc (.cells #[.slice a0 l0 c0] t)) fun e w' => e = .returned (.bool v) ∧ Below w.heap.size w w' := by
  refine (many_any w.heap.size 1 1 (fun _ => a0) (fun _ => l0) (fun _ => c0) v ?_ ?_ (by decide) _ ?_).mono fun _ _ ⟨h, k⟩ => ⟨h, k ▸ (Below.refl _ w).alloc (Nat.le_refl _) _⟩
  · intro h
    rw [h] at hv
    exact ⟨0, by decide, of_decide_eq_true hv⟩
  · intro h j _
    rw [h] at hv
    have h1 := of_decide_eq_false hv
    show l0 ≤ 30
    omega
  · intro j hj
    rw [(Blk.new w t _).cell]
    match j, hj with
    | 0, _ => rfl
theorem ipL_top (X Y : List Nat) : ∀ k, Pl.co (ipL X Y k).2 k = 1
  | 0 => rfl
  | k + 1 => by
    show Pl.co (root _ _) (k + 1) = 1
    rw [root_co, if_neg (by omega), Nat.add_sub_cancel, ipL_top X Y k, Pl.co_out (by rw [ipL_len2]; exact Nat.le_refl _), Gf.zero_mul, Nat.xor_zero]
theorem ipL_d1 (X Y : List Nat) (k : Nat) : Pl.d1 (ipL X Y k).2 = k + 1 :=
  Pl.d1_unique _ _ (fun i hi => Pl.co_out (by rw [ipL_len2]; exact hi)) (fun _ => by rw [Nat.add_sub_cancel, ipL_top]; decide)
theorem lin_d1 (x : Nat) : Pl.d1 [x, 1] = 2 := Pl.d1_unique _ _ (fun i hi => Pl.co_out hi) (fun _ => (by decide : (1 : Nat) ≠ 0))
theorem hor_co {x : Nat} (hx : x < 256) {A B : List Nat} (hA : ∀ i, A.getD i 0 < 256) (hB : ∀ i, B.getD i 0 < 256) (h : ∀ i, Pl.co A i = Pl.co B i) : Pl.hor x A = Pl.hor x B := by
  rw [← hor_trim hx hA, ← hor_trim hx hB, Pl.trim_congr h]
/-- the remainder by x + r tells whether r is a root -/
theorem rest_root {ps Q R : List Nat} {x : Nat} (hx : x < 256) (hp : ∀ i, ps.getD i 0 < 256) (h : DivOk ps [x, 1] Q R) : R.length = 0 ↔ Pl.hor x ps = 0 := by
  obtain ⟨hQ, hR, _, nR, hl, _, hc⟩ := h
  have hl1 := lt_two hx (show 1 < 256 by decide)
  have e : Pl.hor x ps = Pl.hor x R := by
    rw [hor_co hx (B := Pl.trim (plus R (timesT [x, 1] Q))) hp (co_trim_lt (plus_lt hR (timesT_lt hl1))) (fun i => by rw [Pl.trim_co, plus_co, timesT_co]; exact hc i), ring_ev_add hx hR (timesT_lt hl1), ring_ev_mul hx hl1 hQ, hor_lin hx, Nat.xor_self, Gf.zero_mul, Nat.xor_zero]
  rw [lin_d1] at hl
  rw [e]
  match R, hl, nR with
  | [], _, _ => exact ⟨fun _ => rfl, fun _ => rfl⟩
  | [c], _, nR =>
    rw [hor_one]
    have h1 : Pl.d1 [c] = 1 := nR
    have h2 := Pl.d1_top [c] (by omega)
    rw [h1] at h2
    exact ⟨fun h => by simp at h, fun h => absurd h h2⟩
  | _ :: _ :: t, hl, _ => exact absurd hl (by simp only [List.length_cons]; omega)
theorem seen_iff {X : List Nat} {k x : Nat} (Y : List Nat) (hX : ∀ i, X.getD i 0 < 256) (hx : x < 256) : Pl.hor x (ipL X Y k).2 = 0 ↔ seen X k x = true := by
  unfold seen
  rw [decide_eq_true_iff]
  constructor
  · intro h
    refine Classical.byContradiction (fun hn => basis_ne X Y hX hx k (fun j hj e => hn ⟨j, hj, e.symm⟩) h)
  · rintro ⟨i, hi, e⟩
    rw [← e]; exact basis_zero X Y hX k i hi
theorem rootsL_nodup (xs : List Nat) (k : Nat) : (rootsL xs k).Nodup := List.Nodup.sublist List.filter_sublist List.nodup_range
theorem rootsL_lt (xs : List Nat) (k : Nat) : ∀ r ∈ rootsL xs k, r < k := fun _ h => List.mem_range.1 (List.mem_filter.1 h).1
theorem take_sum (f : Nat → Nat) (l : List Nat) (k : Nat) (h : k < l.length) : ((l.take (k + 1)).map f).sum = ((l.take k).map f).sum + f (l.getD k 0) := by
  rw [List.take_add_one, List.getElem?_eq_getElem h, List.getD_eq_getElem?_getD, List.getElem?_eq_getElem h, List.map_append, List.sum_append]
  simp only [Option.toList, List.map_cons, List.map_nil, List.sum_cons, List.sum_nil, Nat.add_zero, Option.getD_some]
set_option maxRecDepth 100000 in
set_option maxHeartbeats 2000000 in
theorem factors_walk (a0 : Option Addr) (len0 cap0 : Nat) (ps : List Nat) (x0 : Int) (w : World) (r0 : RowB w a0 len0 cap0 ps) (wx : (Lit.int .u8 x0).wf = true) :
    Calls Try.prog 7 #[.slice a0 len0 cap0, .int .u8 x0] w fun e w' => e = .returned (.bool true) ∧ Below w.heap.size w w' := by
  obtain ⟨x, xb, rfl⟩ := nat_u8 wx
  have hps := hidIt (row_lt r0)
  have nps := hidIt r0.len
  have bps := hidIt r0.bytes
  clear r0 wx
  go_enter Try.func7, Try.ntmps7
  go_wp2_with (fail)
  refine (awake6_any _).mono ?_
  rintro e w1 ⟨rfl, be1⟩
  replace be1 := hidIt be1
  go_wp2_with (fail)
  by_cases hmany : 30 < len0
  · refine (many1_any w1 a0 len0 cap0 _ true (decide_eq_true hmany)).mono ?_
    rintro e w2 ⟨rfl, be2⟩
    replace be2 := hidIt (then_below be1.out be2)
    clear hmany
    go_wp2_with (fail)
    go_ret
    exact ⟨rfl, be2.out⟩
  · refine (many1_any w1 a0 len0 cap0 _ false (decide_eq_false hmany)).mono ?_
    rintro e w2 ⟨rfl, hbel⟩
    have be2 := hidIt (then_below be1.out hbel)
    have zps : Hid (len0 ≤ 30) := by show _ ≤ _; omega
    clear hmany hbel be1
    go_wp2_with (fail)
    refine (fromroots_any a0 len0 cap0 ps nps.out hps.out (by have := zps.out; omega) _ (bps.out.below be2.out)).mono ?_
    rintro e w3 ⟨⟨aF, cF, rfl, hbF⟩, hbel⟩
    have be3 := hidIt (then_below be2.out hbel)
    obtain ⟨F, hF⟩ : ∃ F, Hid ((ipL ps [] len0).2 = F) := ⟨_, rfl⟩
    rw [hF.out] at hbF
    have bF := hidIt hbF
    obtain ⟨lF, hlF⟩ : ∃ lF, Hid (len0 + 1 = lF) := ⟨_, rfl⟩
    rw [hlF.out]
    have nF : Hid (lF = F.length) := by show _ = _; rw [← hF.out, ← hlF.out, ipL_len2]
    have hFb : Hid (∀ i, F.getD i 0 < 256) := by show ∀ i, _; rw [← hF.out]; exact (ipL_lt ps [] len0).2
    have dF : Hid ((Pl.d1 F : Int) - 1 = (len0 : Int)) := by show _ = _; rw [← hF.out, ipL_d1]; omega
    have sF : Hid (Pl.hor x F = 0 ↔ seen ps len0 x = true) := by show _ ↔ _; rw [← hF.out]; exact seen_iff [] hps.out xb
    clear hbel be2 hbF
    go_wp2_with (fail)
    refine (deg_is aF lF cF F (len0 : Int) dF.out nF.out hFb.out (by have := hlF.out; have := zps.out; omega) _ bF.out).mono ?_
    rintro e w4 ⟨rfl, rfl⟩
    go_wp2_with (fail)
    go_loopw [43, 7, 9] (fun i v _ wr => ∃ (k : Nat) (b : Bool), k ≤ len0 ∧ i = .int .i64 k ∧ v = .bool b ∧ Hid (seen ps k x = b) ∧ Hid (Below w.heap.size w wr) ∧ Hid (Bytes wr aF F)) (fun i _ _ _ => len0 - (intOf i).toNat)
    case atStart => exact ⟨0, false, by omega, rfl, rfl, (by show seen ps 0 x = false; unfold seen; rw [decide_eq_false (by rintro ⟨i, hi, _⟩; omega)]), be3.out, bF.out⟩
    case round =>
      clear be3 bF
      obtain ⟨k, b, hk, rfl, rfl, hbs, be3, bF⟩ := hrel
      have zk : len0 ≤ 30 := zps.out
      by_cases hlt : k < len0
      · have t1 : (k : Int) < (len0 : Int) := by omega
        obtain ⟨y, hy⟩ : ∃ y, Hid (ps.getD k 0 = y) := ⟨_, rfl⟩
        obtain ⟨bb, ob, rfl, e1⟩ := (bps.out.below be3.out) k (by have := nps.out; omega)
        rw [hy.out] at e1
        by_cases hxy : y = x
        · have t2 : ((y : Int) == (x : Int)) = true := by simp; omega
          have hn : Hid (seen ps (k + 1) x = true) := by show _ = _; rw [seen_next, hy.out, if_pos hxy.symm]
          subst hxy
          cases b with
          | true =>
            go_wp2_with (fail)
            go_roundw
            case rel => exact ⟨k + 1, _, by omega, by go_num, rfl, hn.out, be3.out, bF.out⟩
            case measure => simp [intOf]; omega
          | false =>
            go_wp2_with (fail)
            go_roundw
            case rel => exact ⟨k + 1, _, by omega, by go_num, rfl, hn.out, be3.out, bF.out⟩
            case measure => simp [intOf]; omega
        · have t2 : ((y : Int) == (x : Int)) = false := by simp; omega
          have t3 : ¬ (y : Int) = (x : Int) := by omega
          have hn : Hid (seen ps (k + 1) x = b) := by show _ = _; rw [seen_next, hy.out, if_neg (fun e => hxy e.symm)]; exact hbs.out
          clear hxy
          cases b with
          | true =>
            go_wp2_with (fail)
            go_roundw
            case rel => exact ⟨k + 1, _, by omega, by go_num, rfl, hn.out, be3.out, bF.out⟩
            case measure => simp [intOf]; omega
          | false =>
            go_wp2_with (fail)
            go_roundw
            case rel => exact ⟨k + 1, _, by omega, by go_num, rfl, hn.out, be3.out, bF.out⟩
            case measure => simp [intOf]; omega
      · obtain rfl : k = len0 := by omega
        have t1 : ¬ (k : Int) < (k : Int) := by omega
        obtain ⟨v, hv⟩ : ∃ v, Hid (Pl.hor x F = v) := ⟨_, rfl⟩
        have hvb : Hid (v = 0 ↔ b = true) := by show _ ↔ _; rw [← hv.out, ← hbs.out]; exact sF.out
        go_wp2_with (fail)
        refine (eval_any aF lF cF x F nF.out hFb.out xb (by have := hlF.out; have := zps.out; omega) _ bF.out).mono ?_
        rintro e w5 ⟨rfl, hbel⟩
        have be5 := hidIt (then_below be3.out hbel)
        rw [hv.out]
        have hvd : Hid (((v : Int) == 0) = b) := by
          show _ = _
          cases b with
          | true => rw [hvb.out.2 rfl]; rfl
          | false =>
            have : v ≠ 0 := fun e => by have := hvb.out.1 e; cases this
            simp; omega
        have hvn : ((v : Int) == 0) = b := hvd.out
        clear hbel be3 bF sF hvb
        obtain ⟨g, hg⟩ : ∃ g : Int, Hid ((Pl.d1 ps : Int) - 1 = g) := ⟨_, rfl⟩
        have hgo : ((b : Bool) != b) = false := by cases b <;> rfl
        go_wp2_with (fail)
        refine (deg_is a0 _ cap0 ps g hg.out nps.out hps.out (by omega) _ (bps.out.below be5.out)).mono ?_
        rintro e w6 ⟨rfl, rfl⟩
        by_cases hneg : g < 0
        · go_wp2_with (fail)
          go_ret
          exact ⟨rfl, be5.out⟩
        · have hd1 : Hid (0 < Pl.d1 ps) := by have := hg.out; show _ < _; omega
          go_wp2_with (fail)
          have hl1 := lt_two xb (show 1 < 256 by decide)
          obtain ⟨p1, be6⟩ := one_lit w5 [x, 1] #[.int .u8 (x : Int), .int .u8 1] 5 rfl
          refine (divmod_any a0 _ _ 2 cap0 2 ps [x, 1] nps.out rfl hps.out hl1 (by omega) (by decide) (by rw [lin_d1]; decide) _ ((bps.out.below be5.out).below be6) p1).mono ?_
          rintro e w7 ⟨⟨vq, vr, Q, R, rfl, hmQ, hmR, hdv⟩, hbel⟩
          have be7 := hidIt (then_below be5.out (then_below be6 hbel))
          obtain ⟨lq, hlq⟩ : ∃ l, Hid (Q.length = l) := ⟨_, rfl⟩
          obtain ⟨gq, rfl, _, _, _⟩ := hmQ.at lq hlq.out
          obtain ⟨lr, hlr⟩ : ∃ l, Hid (R.length = l) := ⟨_, rfl⟩
          obtain ⟨gr, rfl, _, _, _⟩ := hmR.at lr hlr.out
          have hrest := hidIt (rest_root xb hps.out hdv)
          clear hbel be6 be5 hmQ hmR hdv p1
          go_wp2_with (fail)
          refine (mult_any a0 _ cap0 x ps nps.out hps.out xb (by omega) hd1.out _ (bps.out.below be7.out)).mono ?_
          rintro e w8 ⟨⟨m, rfl, hm64, T, hT⟩, hbel⟩
          have be8 := hidIt (then_below be7.out hbel)
          have hroot := hidIt hT.root
          clear hbel be7 hT
          go_wp2_with (fail)
          refine (roots_any a0 _ cap0 ps nps.out hps.out (by omega) hd1.out _ (bps.out.below be8.out)).mono ?_
          rintro e w9 ⟨⟨aR, nR, cR, rfl, hnR, hbR⟩, hbel⟩
          have be9 := hidIt (then_below be8.out hbel)
          obtain ⟨RL, hRL⟩ : ∃ RL, Hid (rootsL ps 256 = RL) := ⟨_, rfl⟩
          rw [hRL.out] at hnR hbR
          have nRL := hidIt hnR
          have bRL := hidIt hbR
          have hRb : Hid (∀ r ∈ RL, r < 256) := by show ∀ r ∈ RL, _; rw [← hRL.out]; exact rootsL_lt ps 256
          have hR256 : Hid (nR ≤ 256) := by show _ ≤ _; rw [hnR, ← hRL.out]; exact rootsL_len ps 256
          have hsum : Hid ((RL.map (mlt ps)).sum ≤ Pl.d1 ps - 1) := by
            show _ ≤ _
            rw [← hRL.out]
            exact mult_sum (Pl.d1 ps - 1) ps _ hd1.out (by have := hd1.out; omega) hps.out (by have := nps.out; omega) (rootsL_nodup ps 256) (rootsL_lt ps 256)
          clear hbel be8 hnR hbR
          go_wp2_with (fail)
          go_loopw [84, 17, 19, 20, 21] (fun i s _ _ _ wr => ∃ (j sm : Nat), j ≤ nR ∧ i = .int .i64 (j : Int) ∧ s = .int .i64 (sm : Int) ∧ sm ≤ 64 * j ∧ Hid (sm = ((RL.take j).map (mlt ps)).sum) ∧ Hid (Below w.heap.size w wr) ∧ Hid (Bytes wr aR RL)) (fun i _ _ _ _ _ => nR - (intOf i).toNat)
          case atStart => exact ⟨0, 0, by omega, rfl, rfl, by omega, rfl, be9.out, bRL.out⟩
          case round =>
            clear be9 bRL
            obtain ⟨j, sm, hj, rfl, rfl, hsm, hse, be9, bRL⟩ := hrel
            have z256 : nR ≤ 256 := hR256.out
            by_cases hjl : j < nR
            · have t5 : (j : Int) < (nR : Int) := by omega
              obtain ⟨r, hr⟩ : ∃ r, Hid (RL.getD j 0 = r) := ⟨_, rfl⟩
              obtain ⟨br, or', rfl, e5⟩ := bRL.out j (by have := nRL.out; omega)
              rw [hr.out] at e5
              have rb : r < 256 := by
                rw [← hr.out]
                refine hRb.out _ ?_
                have hj2 : j < RL.length := by have := nRL.out; omega
                rw [List.getD_eq_getElem?_getD, List.getElem?_eq_getElem hj2]
                exact List.getElem_mem hj2
              go_wp2_with (fail)
              refine (mult_any a0 _ cap0 r ps nps.out hps.out rb (by omega) hd1.out _ (bps.out.below be9.out)).mono ?_
              rintro e w10 ⟨⟨m2, rfl, hm642, T2, hT2⟩, hbel⟩
              have hmm : Hid (mlt ps r = m2) := mlt_is hT2
              have be10 := hidIt (then_below be9.out hbel)
              have bRL2 := hidIt (bRL.out.below hbel)
              obtain ⟨s2, hs2⟩ : ∃ s2, Hid (sm + m2 = s2) := ⟨_, rfl⟩
              have e6 : (sm : Int) + (m2 : Int) = (s2 : Int) := by have := hs2.out; omega
              have e7 : IntKind.i64.wrap (s2 : Int) = (s2 : Int) := IntWalk.i64_in _ (by have := hs2.out; omega)
              have hse2 : Hid (s2 = ((RL.take (j + 1)).map (mlt ps)).sum) := by
                show _ = _
                rw [take_sum _ _ _ (by have := nRL.out; omega), hr.out, hmm.out, ← hse.out, hs2.out]
              clear hbel be9 bRL hT2
              go_wp2_with (fail)
              go_roundw
              case rel => exact ⟨j + 1, s2, by omega, by go_num, rfl, by have := hs2.out; omega, hse2.out, be10.out, bRL2.out⟩
              case measure => simp [intOf]; omega
            · obtain rfl : j = nR := by omega
              have t5 : ¬ (j : Int) < (j : Int) := by omega
              have hfin : Hid (sm ≤ Pl.d1 ps - 1) := by
                have h1 := hse.out
                rw [List.take_of_length_le (by have := nRL.out; omega)] at h1
                show _ ≤ _
                rw [h1]; exact hsum.out
              have t6 : (sm : Int) ≤ g := by have := hfin.out; have := hg.out; have := hd1.out; omega
              obtain ⟨u, hu⟩ : ∃ u, Hid (Pl.hor x ps = u) := ⟨_, rfl⟩
              by_cases hu0 : u = 0
              · have hlr0 : lr = 0 := by rw [← hlr.out]; exact hrest.out.2 (by rw [hu.out]; exact hu0)
                have hm0 : 0 < m := hroot.out.1 (by rw [hu.out]; exact hu0)
                have t7 : (0 : Int) < (m : Int) := by omega
                subst hlr0
                go_wp2_with (fail)
                refine (eval_any a0 _ cap0 x ps nps.out hps.out xb (by omega) _ (bps.out.below be9.out)).mono ?_
                rintro e w11 ⟨rfl, hbel⟩
                have be11 := hidIt (then_below be9.out hbel)
                rw [hu.out, hu0]
                clear hbel be9 bRL
                go_wp2_with (fail)
                refine (deg_is a0 _ cap0 ps g hg.out nps.out hps.out (by omega) _ (bps.out.below be11.out)).mono ?_
                rintro e w12 ⟨rfl, rfl⟩
                go_wp2_with (fail)
                go_ret
                exact ⟨rfl, be11.out⟩
              · have hlr0 : lr ≠ 0 := fun e => hu0 (by rw [← hu.out]; exact hrest.out.1 (by rw [hlr.out]; exact e))
                have hm0 : m = 0 := Nat.eq_zero_of_not_pos (fun e => hu0 (by rw [← hu.out]; exact hroot.out.2 e))
                subst hm0
                have t7 : ((lr : Int) == 0) = false := by simp; omega
                have t8 : ¬ (lr : Int) = 0 := by omega
                have t9 : ((u : Int) == 0) = false := by simp; omega
                have t10 : ¬ (u : Int) = 0 := by omega
                go_wp2_with (fail)
                refine (eval_any a0 _ cap0 x ps nps.out hps.out xb (by omega) _ (bps.out.below be9.out)).mono ?_
                rintro e w11 ⟨rfl, hbel⟩
                have be11 := hidIt (then_below be9.out hbel)
                rw [hu.out]
                clear hbel be9 bRL
                go_wp2_with (fail)
                refine (deg_is a0 _ cap0 ps g hg.out nps.out hps.out (by omega) _ (bps.out.below be11.out)).mono ?_
                rintro e w12 ⟨rfl, rfl⟩
                go_wp2_with (fail)
                go_ret
                exact ⟨rfl, be11.out⟩
end Go.Proofs.Ytcnjcfmgkkghjaa
