import Derived.Test.YtegfbmekpmdcaaaDoorOr1
namespace Go.Proofs.YtegfbmekpmdcaaaDoor
open Go.RowKit
theorem range_snoc {α : Type} (f : Nat → α) (k : Nat) : (List.range (k + 1)).map f = (List.range k).map f ++ [f k] := by rw [List.range_succ, List.map_append]; rfl
/-- what the reference's Digits returns -/
def RdI (_w : World) (e : Ending) (w' : World) (F : Nat → Nat) (n : Nat) : Prop := ∃ a cap, e = .returned (.slice a n cap) ∧ Ints w' a n F ∧ n ≤ cap
set_option maxRecDepth 100000 in
set_option maxHeartbeats 2000000 in
theorem refdigits_any (b s : Nat) (ho : Ot.okB b s = true) (dig : ByteArray) (xs : List Nat) (hx : Hid (ofStr dig = xs)) (hsz : (dig.size : Int) = (s : Int)) (w : World) :
    Calls Tryd.prog 21 #[.agg #[.int .i64 (b : Int), .int .i64 (s : Int)], .string dig] w fun e w' => RdI w e w' (Ot.dgs b s xs) (Ot.tot b s) ∧ Below w.heap.size w w' := by
  have hl := Ot.las_bd b s ho
  have hm := Ot.mn_bd b s ho
  have hc := Ot.cd_bd b s ho
  have hsh := Ot.cd_sh b s ho
  have hob := hidIt ho
  have eb := ((Ot.ok_iff b s).1 ho).1
  have d1 : Hid (∀ W, Calls Tryd.prog 19 #[.agg #[.int .i64 (b : Int), .int .i64 (s : Int)]] W fun e w' => e = .returned (.int .i64 (Ot.mn b s : Int)) ∧ Below W.heap.size W w') := fun W => refmain_any b s ho W
  have d2 : Hid (∀ W, Calls Tryd.prog 43 #[.agg #[.int .i64 (b : Int), .int .i64 (s : Int)]] W fun e w' => e = .returned (.int .i64 ((Ot.las b + 1 : Nat) : Int)) ∧ Below W.heap.size W w') := fun W => refbase_any b s ho W
  have d3 : Hid (∀ W, Calls Tryd.prog 20 #[.agg #[.int .i64 (b : Int), .int .i64 (s : Int)]] W fun e w' => e = .returned (.int .i64 (Ot.cd b s : Int)) ∧ Below W.heap.size W w') := fun W => refcheck_any b s ho W
  have hszb : dig.size = s := by omega
  have d4 : Hid (∀ i W, i / 8 < s → i ≤ 1000000 → Calls Tryd.prog 44 #[.string dig, .int .i64 (i : Int)] W fun e w' => e = .returned (.int .i64 (Ot.bitAt xs i : Int)) ∧ W = w') := fun i W h1 h2 => refbit_any dig xs hx i (by omega) h2 W
  obtain ⟨n, hn⟩ : ∃ n, Hid (Ot.tot b s = n) := ⟨_, rfl⟩
  obtain ⟨c, hcd⟩ : ∃ c, Hid (Ot.cd b s = c) := ⟨_, rfl⟩
  obtain ⟨m, hmn⟩ : ∃ m, Hid (Ot.mn b s = m) := ⟨_, rfl⟩
  obtain ⟨l, hll⟩ : ∃ l, Hid (Ot.las b = l) := ⟨_, rfl⟩
  obtain ⟨p, hp⟩ : ∃ p, Hid (l + 1 = p) := ⟨_, rfl⟩
  have hnm : Hid (n = m + c) := by show _ = _; rw [← hn.out, ← hmn.out, ← hcd.out]; rfl
  rw [hn.out]
  rw [hcd.out] at hc d3 hsh
  rw [hmn.out] at hm d1
  rw [hll.out] at hl d2
  rw [hp.out] at d2
  have hm2 : m ≤ 256 := hm.2.1
  have hmb : Hid (m * b = 8 * s) := hm.2.2
  have hc9 : c ≤ 9 := hc.2
  have hc1 : 1 ≤ c := hc.1
  have b8 : b ≤ 8 := hl.2.2.2
  have b1 : 1 ≤ b := by omega
  have hl2 : l ≤ 255 := hl.2.1
  have hp256 : p ≤ 256 := by have := hp.out; omega
  have hp2 : 2 ≤ p := by have := hp.out; have := hl.1; omega
  have hpw : Hid (p = 2 ^ b) := by show _ = _; rw [← hp.out]; exact hl.2.2.1
  have hpl : Hid (p = l + 1) := hp.out.symm
  have hs32 : s ≤ 32 := ((Ot.ok_iff b s).1 ho).2.2
  have hebh := hidIt eb
  have hshh := hidIt hsh
  have p0 := rs_new w (b : Int) (s : Int)
  obtain ⟨w1, hw1⟩ : ∃ w1, Hid (w.alloc (.cells #[.int .i64 (b : Int), .int .i64 (s : Int)] 23) = w1) := ⟨_, rfl⟩
  obtain ⟨G, hG⟩ : ∃ G, Hid (w.heap.size = G) := ⟨_, rfl⟩
  have hw1s : Hid (w1.heap.size = G + 1) := by rw [← hw1.out, ← hG.out]; exact World.size_alloc _ _
  have hwG : Hid (w.heap.size ≤ G + 1) := by show _ ≤ _; rw [← hG.out]; omega
  rw [hw1.out, hG.out] at p0
  clear hl hm hc ho hsz hszb hp eb hsh hx
  go_enter Tryd.func21, Tryd.ntmps21
  go_wp2_with (fail)
  rw [hw1.out]
  try rw [hG.out]
  clear hw1
  go_loopw [7, 5, 6] (fun i v z wr => ∃ k : Nat, i = .int .i64 (k : Int) ∧ k ≤ m ∧ z = .int .i64 ((Ot.ckTo b xs k : Nat) : Int) ∧ PS w G (b : Int) (s : Int) wr ∧ wr.ownsRow (G + 1) 3 1 v k (ivals ((List.range k).map (Ot.dg b xs)))) (fun i _ _ _ => m - (intOf i).toNat)
  case atStart => exact ⟨0, rfl, by omega, rfl, p0, ⟨rfl, .inl ⟨rfl, rfl⟩⟩⟩
  case round =>
    obtain ⟨k, rfl, hk, rfl, hS, hown⟩ := hrel
    clear p0
    have hckb := Ot.ckTo_le b xs k
    obtain ⟨z, hz⟩ : ∃ z, Hid (Ot.ckTo b xs k = z) := ⟨_, rfl⟩
    rw [hz.out, hll.out] at hckb
    have hz3 : z ≤ 65280 := Nat.le_trans hckb (Nat.mul_le_mul (Nat.le_trans hk hm2) hl2)
    rw [hz.out]
    clear hckb
    have e0 := hS.c0
    have e1 := hS.c1
    by_cases hlt : k < m
    · go_wp2_with (fail)
      refine (d1.out _).mono ?_
      rintro e w5 ⟨rfl, hb5⟩
      have p5 := hS.next hb5
      have own5 := hidIt (own_belowI hown hb5)
      have hsz5 := hidIt (Nat.le_trans (show G + 1 ≤ wr.heap.size from bytes_lt hS.c0) hb5.size)
      clear hS hown hb5 e0 e1
      have e0 := p5.c0
      have e1 := p5.c1
      obtain ⟨a, ha⟩ : ∃ a, Hid (k * b = a) := ⟨_, rfl⟩
      have ha2 : a + b ≤ 8 * s := by rw [← hmb.out, ← ha.out, ← Nat.succ_mul]; exact Nat.mul_le_mul_right b hlt
      have m1 : (k : Int) * (b : Int) = (a : Int) := by rw [← ha.out]; push_cast; rfl
      obtain ⟨wo, hwo⟩ : ∃ wo, Hid (wo = wr) := ⟨_, rfl⟩
      go_wp2_with (fail)
      go_loop [8, 9] (fun d j => ∃ q : Nat, j = .int .i64 (q : Int) ∧ q ≤ b ∧ d = .int .i64 ((Ot.part b xs k q : Nat) : Int)) (fun _ j => b - (intOf j).toNat)
      case atStart => exact ⟨0, rfl, by omega, by rw [Ot.part_zero]; rfl⟩
      case round =>
        obtain ⟨q, rfl, hq, rfl⟩ := hrel
        obtain ⟨d, hd⟩ : ∃ d, Hid (Ot.part b xs k q = d) := ⟨_, rfl⟩
        have hd255 : d ≤ 255 := by rw [← hd.out]; exact Ot.part_le b xs k q (by omega)
        rw [hd.out]
        by_cases hql : q < b
        · obtain ⟨aq, haq⟩ : ∃ aq, Hid (a + q = aq) := ⟨_, rfl⟩
          have m2 : (a : Int) + (q : Int) = (aq : Int) := by have := haq.out; omega
          have haq9 : aq ≤ 256 := by have := haq.out; omega
          obtain ⟨y, hy⟩ : ∃ y, Hid (Ot.bitAt xs aq = y) := ⟨_, rfl⟩
          have hy1 : y ≤ 1 := by rw [← hy.out]; unfold Ot.bitAt; omega
          have dB : Hid (∀ W, Calls Tryd.prog 44 #[.string dig, .int .i64 (aq : Int)] W fun e w' => e = .returned (.int .i64 (y : Int)) ∧ W = w') := fun W => hy.out ▸ d4.out aq W (by have := haq.out; omega) (by omega)
          have hst : Hid (2 * d + y = Ot.part b xs k (q + 1)) := by
            show _ = _
            rw [← Ot.part_step b hebh.out xs k q hql, hd.out, ha.out, haq.out, hy.out]
          clear hd haq hy
          go_wp2_with (fail)
          refine (dB.out _).mono ?_
          rintro e w6 ⟨rfl, rfl⟩
          go_wp2_with (fail)
          go_round
          case rel => exact ⟨q + 1, by go_num, by omega, by rw [← hst.out]; go_num⟩
          case measure => simp [intOf]; omega
        · have hqb : Hid (q = b) := by show _ = _; omega
          have hdg : Hid (Ot.dg b xs k = d) := by show _ = _; rw [← hd.out, hqb.out]; rfl
          have hdl : d ≤ l := by rw [← hdg.out, ← hll.out]; exact Ot.dg_le b xs k
          clear hd hqb hq
          have hbA : Below w5.heap.size w5 (w5.alloc (.cells #[.int .i64 (d : Int)] 3)) := (Below.refl _ _).alloc (Nat.le_refl _) _
          have own6 := hidIt (own_belowI own5.out hbA)
          have p6 := p5.next hbA
          have hA6 := hidIt hbA.size
          clear hbA
          go_wp2_with (at_builtin; refine wpList_snoc_int _ rfl _ _ rfl (G + 1) _ k ((List.range k).map (Ot.dg b xs)) rfl own6.out w5.heap.size d rfl (int_new w5 d) (by omega) (by have := hsz5.out; have := hA6.out; omega) ?_)
          intro v7 w7 own7 hb7
          have p7 := p6.nextB hb7 (by omega) hwG.out
          rw [← hdg.out, ← range_snoc] at own7
          have own7' := hidIt own7
          clear own7 own6 own5 p6 hb7 p5 e0 e1
          have e0 := p7.c0
          have e1 := p7.c1
          go_wp2_with (fail)
          refine (d2.out _).mono ?_
          rintro e w8 ⟨rfl, hb8⟩
          have p8 := hidIt (p7.next hb8)
          have own8 := hidIt (own_belowI own7'.out hb8)
          have hst : Hid (z + (l - d) = Ot.ckTo b xs (k + 1)) := by show _ = _; rw [← hz.out, ← hll.out, ← hdg.out]; rfl
          have hpl2 := hpl.out
          clear hb8 p7 own7' e0 e1 hdg hz
          go_wp2_with (fail)
          go_roundw
          case rel => exact ⟨k + 1, by go_num, by omega, by rw [← hst.out]; go_num, p8.out, own8.out⟩
          case measure => simp [intOf]; omega
    · have hkm : Hid (k = m) := by show _ = _; omega
      go_wp2_with (fail)
      refine (d1.out _).mono ?_
      rintro e w5 ⟨rfl, hb5⟩
      have p5 := hS.next hb5
      have own5 := own_belowI hown hb5
      have hzk : Hid (Ot.ck b s xs = z) := by show _ = _; rw [← hz.out, hkm.out, ← hmn.out]; rfl
      have hlist : Hid ((List.range m).map (Ot.dg b xs) = (List.range m).map (Ot.dgs b s xs)) := by
        show _ = _
        apply List.map_congr_left
        intro i hi
        have hi2 := List.mem_range.1 hi
        unfold Ot.dgs
        rw [if_pos (by rw [hmn.out]; exact hi2)]
      rw [hkm.out, hlist.out] at own5
      have own5' := hidIt own5
      clear hS hown hb5 e0 e1 own5 hz hlist
      have e0 := p5.c0
      have e1 := p5.c1
      go_wp2_with (fail)
      refine (d3.out _).mono ?_
      rintro e w6 ⟨rfl, hb6⟩
      have p6 := p5.next hb6
      have own6 := hidIt (own_belowI own5'.out hb6)
      clear hb6 p5 own5' e0 e1 hlt hk hkm
      obtain ⟨wo, hwo⟩ : ∃ wo, Hid (wo = wr) := ⟨_, rfl⟩
      have c10 : 1 ≤ (c : Int) := by omega
      go_wp2_with (fail)
      go_loopw [10, 5] (fun i v wr => ∃ j : Nat, i = .int .i64 ((c : Int) - 1 - (j : Int)) ∧ j ≤ c ∧ PS w G (b : Int) (s : Int) wr ∧ wr.ownsRow (G + 1) 3 1 v (m + j) (ivals ((List.range (m + j)).map (Ot.dgs b s xs)))) (fun i _ _ => (intOf i + 1).toNat)
      case atStart => exact ⟨0, by go_num, by omega, p6, own6.out⟩
      case round =>
        obtain ⟨j, rfl, hj, hS, hown⟩ := hrel
        clear p6 own6
        have e0 := hS.c0
        have e1 := hS.c1
        by_cases hlt : j < c
        · obtain ⟨i, hi⟩ : ∃ i, Hid (c - 1 - j = i) := ⟨_, rfl⟩
          have hie : (c : Int) - 1 - (j : Int) = (i : Int) := by have := hi.out; omega
          have hi9 : i ≤ 8 := by have := hi.out; omega
          have hib : Hid (i * b ≤ 16) := Nat.le_trans (Nat.mul_le_mul_right b (show i ≤ c - 1 by have := hi.out; omega)) hshh.out
          rw [hie]
          have hS' := hidIt hS
          have hown' := hidIt hown
          clear hS hown
          obtain ⟨wp, rfl⟩ : ∃ wp : World, wp = wr := ⟨_, rfl⟩
          go_wp2_with (fail)
          go_loopw [12, 11] (fun q x w3 => ∃ t : Nat, q = .int .i64 (t : Int) ∧ t ≤ i ∧ x = .int .i64 ((2 ^ (t * b) : Nat) : Int) ∧ PS w G (b : Int) (s : Int) w3 ∧ Below wp.heap.size wp w3) (fun q _ _ => i - (intOf q).toNat)
          case atStart => exact ⟨0, rfl, by omega, by rw [Nat.zero_mul]; rfl, hS'.out, Below.refl _ _⟩
          case round =>
            obtain ⟨t, rfl, ht, rfl, hS3, hb3⟩ := hrel
            clear e0 e1
            have e0 := hS3.c0
            have e1 := hS3.c1
            by_cases htl : t < i
            · obtain ⟨x, hxx⟩ : ∃ x : Nat, Hid ((2 : Nat) ^ (t * b) = x) := ⟨2 ^ (t * b), hidIt rfl⟩
              obtain ⟨x', hx'⟩ : ∃ x' : Nat, Hid ((2 : Nat) ^ ((t + 1) * b) = x') := ⟨2 ^ ((t + 1) * b), hidIt rfl⟩
              have hxp : x * p = x' := by rw [← hxx.out, ← hx'.out, hpw.out, ← Nat.pow_add, Nat.succ_mul]
              have hx'b : x' ≤ 65536 := by
                rw [← hx'.out]
                exact Nat.pow_le_pow_right (n := 2) (by omega) (Nat.le_trans (Nat.mul_le_mul_right b (show t + 1 ≤ i by omega)) hib.out)
              have k5 : (x : Int) * (p : Int) = (x' : Int) := by rw [← hxp]; push_cast; rfl
              have hS4 := hidIt hS3
              have hb4 := hidIt hb3
              rw [hxx.out]
              clear hS3 hb3 hxx hxp
              go_wp2_with (fail)
              refine (d2.out _).mono ?_
              rintro e w9 ⟨rfl, hb9⟩
              have p9 := hidIt (hS4.out.next hb9)
              have H9 := hidIt (below_then hb4.out hb9)
              clear hb9 hS4 hb4 e0 e1
              go_wp2_with (fail)
              go_roundw
              case rel => exact ⟨t + 1, by go_num, by omega, by rw [hx'.out], p9.out, H9.out⟩
              case measure => simp [intOf]; omega
            · have hti : Hid (t = i) := by show _ = _; omega
              obtain ⟨x, hxx⟩ : ∃ x : Nat, Hid ((2 : Nat) ^ (t * b) = x) := ⟨2 ^ (t * b), hidIt rfl⟩
              have hx1 : 1 ≤ x := by rw [← hxx.out]; exact Nat.two_pow_pos _
              have hxb : x ≤ 65536 := by
                rw [← hxx.out]
                exact Nat.pow_le_pow_right (n := 2) (by omega) (show t * b ≤ 16 by rw [hti.out]; exact hib.out)
              rw [hxx.out]
              obtain ⟨y, hy⟩ : ∃ y : Nat, Hid (z / x = y) := ⟨_, rfl⟩
              obtain ⟨v, hv⟩ : ∃ v : Nat, Hid (y % p = v) := ⟨_, rfl⟩
              have hdg : Hid (Ot.dgs b s xs (m + j) = v) := by
                show _ = _
                unfold Ot.dgs
                rw [if_neg (by rw [hmn.out]; omega), hzk.out, hn.out, show n - 1 - (m + j) = i by have := hnm.out; have := hi.out; omega, ← hti.out, hxx.out, hy.out, ← hpw.out, hv.out]
              have hyz : y ≤ z := by rw [← hy.out]; exact Nat.div_le_self _ _
              have k1 : (z : Int) / (x : Int) = (y : Int) := by rw [← hy.out]; push_cast; rfl
              have k2 : (z : Int).tdiv (x : Int) = (y : Int) := by rw [Int.tdiv_eq_ediv_of_nonneg (by omega)]; exact k1
              have k3 : (y : Int) % (p : Int) = (v : Int) := by rw [← hv.out]; push_cast; rfl
              have k4 : (y : Int).tmod (p : Int) = (v : Int) := by rw [Int.tmod_eq_emod_of_nonneg (by omega)]; exact k3
              have hvp : v < p := by rw [← hv.out]; exact Nat.mod_lt _ (by omega)
              have k5 : IntKind.i64.wrap (y : Int) = (y : Int) := IntWalk.i64_in _ (by omega)
              have k6 : IntKind.i64.wrap (v : Int) = (v : Int) := IntWalk.i64_in _ (by omega)
              have own3 := own_belowI hown'.out hb3
              have hwr3 : Hid (G + 1 ≤ wr.heap.size) := bytes_lt hS3.c0
              have n1 : ¬ (x : Int) = 0 := by omega
              have n2 : ((x : Int) == 0) = false := by simp; omega
              have n3 : ¬ (p : Int) = 0 := by omega
              have n4 : ((p : Int) == 0) = false := by simp; omega
              have n5 : ¬ x = 0 := by omega
              have n6 : ¬ p = 0 := by omega
              have hmj : m + j ≤ 1000 := by omega
              obtain ⟨mj, hmje⟩ : ∃ mj, Hid (m + j = mj) := ⟨_, rfl⟩
              rw [hmje.out] at own3 hdg hmj
              clear hxx hy hv hti hb3 hown' hS' ht hib
              go_wp2_with (fail)
              go_region_held3 (fun W' => PS w G (b : Int) (s : Int) W' ∧ W'.cell? ⟨G, 0, none⟩ = some (.int .i64 (b : Int)) ∧ W'.cell? ⟨G, 1, none⟩ = some (.int .i64 (s : Int)))
                (first
                  | exact PS.all (by assumption)
                  | (go_split_ands; exact PS.all (by assumption))
                  | (go_split_ands; exact PS.all (PS.drew (by assumption)))
                  | (go_split_ands; exact PS.all (PS.new (by assumption) _))
                  | (go_split_ands; exact PS.all (PS.behind (by assumption) (by assumption)))
                  | (go_split_ands; exact PS.all (PS.nextB (by assumption) hb12 (Nat.lt_succ_self _) hwG.out)))
                (first
                  | (go_at_call 43; (with_reducible refine Calls.mono (d2.out _) ?_); rintro e w11 ⟨rfl, hb11⟩)
                  | (refine step_snoc_int _ rfl _ _ rfl (G + 1) _ mj ((List.range mj).map (Ot.dgs b s xs)) rfl (own_belowI own3 (below_then (Below.refl _ _).drew (below_then hb11 ((Below.refl _ _).alloc (Nat.le_refl _) _)))) w11.heap.size v rfl (int_new _ _) (by omega) (Nat.le_trans hwr3.out (Nat.le_trans hb11.size (by simp))) ?_; intro v12 w12 own12 hb12))
              all_goals
                go_split_ands
                rw [← hdg.out, ← range_snoc] at own12
                have own13 := hidIt own12
                have hS12 : PS w G (b : Int) (s : Int) w12 := by assumption
                have p13 := hidIt hS12
                clear hS12 own12 hb12 own3 hS3 e0 e1
                go_wp2_with (fail)
                go_roundw
                case rel => exact ⟨j + 1, by have := hi.out; show Value.int .i64 _ = Value.int .i64 _; congr 1; omega, by omega, p13.out, by have := own13.out; rw [← hmje.out] at this; exact this⟩
                case measure => simp [intOf]
        · have hjc : Hid (j = c) := by show _ = _; omega
          have hie : (c : Int) - 1 - (j : Int) = -1 := by omega
          rw [hie]
          have own3 := hown
          rw [hjc.out, ← hnm.out] at own3
          obtain ⟨a, cap, rfl, hcap, hI, _⟩ := owned_ints own3 (by simp)
          have hI2 : Hid (Ints wr a n (Ot.dgs b s xs)) := fun i hi => by
            obtain ⟨b', o', h1, h2⟩ := hI i (by simpa using hi)
            refine ⟨b', o', h1, ?_⟩
            rw [h2]
            show some (Value.int .i64 ((((List.range n).map (Ot.dgs b s xs)).getD i 0 : Nat) : Int)) = _
            rw [List.getD_eq_getElem?_getD, List.getElem?_map, List.getElem?_range hi]; rfl
          have HB := hidIt hS.bel
          have hln : ((List.range n).map (Ot.dgs b s xs)).length = n := by simp
          rw [hln] at hcap
          rw [hln]
          clear hS hown own3 hI hln hie hjc e0 e1
          go_wp2_with (fail)
          go_ret
          exact ⟨⟨a, cap, rfl, hI2.out, hcap⟩, HB.out⟩
end Go.Proofs.YtegfbmekpmdcaaaDoor
