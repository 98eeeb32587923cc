import Derived.Test.YtcnjcfmgkkghjaaPlNew
import Derived.Test.YtcnjcfmgkkghjaaAppB
import Derived.Deep.RegionHeld3
namespace Go.Proofs.Ytcnjcfmgkkghjaa
open Go.RowKit
theorem owns_below {w w' : World} {base n : Nat} {v : Value} {xs : List Value} (h : w.ownsRow base 5 1 v n xs) (hb : Below w.heap.size w w') : w'.ownsRow base 5 1 v n xs := by
  refine ⟨h.1, ?_⟩
  rcases h.2 with h | ⟨g, cap, cur, h1, h2, h3, h4⟩
  · exact .inl h
  · exact .inr ⟨g, cap, cur, h1, h2, (hb.block g (Blk.lt (t := 5) (cs := cur) h3)).trans h3, h4⟩
theorem deg_is (a : Option Addr) (n c : Nat) (xs : List Nat) (g : Int) (hg : (Pl.d1 xs : Int) - 1 = g) (hn : n = xs.length) (hx : ∀ i, xs.getD i 0 < 256) (hbig : n ≤ 140737488355328) (w : World) (h : Bytes w a xs) :
    Calls Try.prog 27 #[.slice a n c] w fun e w' => e = .returned (.int .i64 g) ∧ w = w' := by
  subst hg; exact degree_any a n c xs hn hx hbig w h
set_option maxRecDepth 100000 in
set_option maxHeartbeats 1000000 in
theorem unique_walk (a0 a1 a2 : Option Addr) (len0 cap0 len1 cap1 len2 cap2 : Nat) (ps xs ys : List Nat) (w : World) (r0 : RowB w a0 len0 cap0 ps) (r1 : RowB w a1 len1 cap1 xs) (r2 : RowB w a2 len2 cap2 ys) :
    Calls Try.prog 5 #[.slice a0 len0 cap0, .slice a1 len1 cap1, .slice a2 len2 cap2] w fun e w' => e = .returned (.bool true) ∧ Below w.heap.size w w' := by
  have hp := hidIt (row_lt r0)
  have hx := hidIt (row_lt r1)
  have hy := hidIt (row_lt r2)
  have n0 := hidIt r0.len
  have n1 := hidIt r1.len
  have n2 := hidIt r2.len
  have b0 := hidIt r0.bytes
  have b1 := hidIt r1.bytes
  have b2 := hidIt r2.bytes
  clear r0 r1 r2
  go_enter Try.func5, Try.ntmps5
  go_wp2_with (fail)
  refine (awake6_any _).mono ?_
  rintro e w1 ⟨rfl, be1⟩
  replace be1 := hidIt be1
  go_wp2_with (fail)
  by_cases hmany : 30 < len0 ∨ 30 < len1
  · refine (many2_any w1 a0 a1 len0 cap0 len1 cap1 _ true (decide_eq_true hmany)).mono ?_
    rintro e w2 ⟨rfl, be2⟩
    replace be2 := hidIt (then_below be1.out be2)
    clear hmany
    go_wp2_with (fail)
    go_ret
    exact ⟨rfl, be2.out⟩
  · refine (many2_any w1 a0 a1 len0 cap0 len1 cap1 _ false (decide_eq_false hmany)).mono ?_
    rintro e w2 ⟨rfl, be2⟩
    replace be2 := hidIt (then_below be1.out be2)
    have s0 : Hid (len0 ≤ 30) := by show _ ≤ _; omega
    have s1 : Hid (len1 ≤ 30) := by show _ ≤ _; omega
    clear hmany be1
    go_wp2_with (fail)
    refine (distinct_any a1 len1 cap1 xs n1.out hx.out (by have := s1.out; omega) _ (b1.out.below be2.out)).mono ?_
    rintro e w3 ⟨⟨v, rfl, hds⟩, be3⟩
    replace be3 := hidIt (then_below be2.out be3)
    clear be2
    cases v with
    | false =>
      clear hds
      go_wp2_with (fail)
      go_ret
      exact ⟨rfl, be3.out⟩
    | true =>
      have hd : Hid (Dst xs len1) := by show Dst _ _; rw [n1.out]; exact hds rfl
      clear hds
      obtain ⟨zs, hzs⟩ : ∃ zs, Hid (zs = Pl.fn (fun i => Pl.hor (xs.getD i 0) ps) len1) := ⟨_, rfl⟩
      have hzl : Hid (zs.length = len1) := by show _ = _; rw [hzs.out, Pl.fn_len]
      have hzv : Hid (∀ i, i < len1 → zs.getD i 0 = Pl.hor (xs.getD i 0) ps) := fun i hi => by rw [hzs.out, fn_getD _ _ _ hi]
      have hzb : Hid (∀ i, zs.getD i 0 < 256) := fun i => by rw [hzs.out]; exact fn_lt (fun i => Pl.hor_lt _ (ok_of hp.out)) _ i
      go_wp2_with (fail)
      go_loopw [29, 7, 9] (fun i v _ wr => ∃ k : Nat, k ≤ len1 ∧ i = .int .i64 k ∧ Hid (wr.ownsRow w.heap.size 5 1 v k (vals (zs.take k))) ∧ Hid (Below w.heap.size w wr)) (fun i _ _ _ => len1 - (intOf i).toNat)
      case atStart => exact ⟨0, by omega, rfl, by rw [List.take_zero]; exact World.ownsRow_nil _ _ _ _, be3⟩
      case round =>
        clear be3
        obtain ⟨k, hk, rfl, hown, hb⟩ := hrel
        by_cases hlt : k < len1
        · obtain ⟨x, hxk⟩ : ∃ x, Hid (xs.getD k 0 = x) := ⟨_, rfl⟩
          obtain ⟨bb, ob, rfl, e1⟩ := (b1.out.below hb.out) k (by have := n1.out; omega)
          rw [hxk.out] at e1
          have xb : x < 256 := by rw [← hxk.out]; exact hx.out k
          have t1 : (k : Int) < (len1 : Int) := by omega
          have s1' : len1 ≤ 30 := s1.out
          go_wp2_with (fail)
          refine (eval_any a0 len0 cap0 x ps n0.out hp.out xb (by have := s0.out; omega) _ (b0.out.below hb.out)).mono ?_
          rintro e w4 ⟨rfl, be4⟩
          obtain ⟨z, hz⟩ : ∃ z, Hid (Pl.hor x ps = z) := ⟨_, rfl⟩
          rw [hz.out]
          have hown4 := hidIt (owns_below hown.out be4)
          have hb4 := hidIt (then_below hb.out be4)
          have ht : Hid (zs.take (k + 1) = zs.take k ++ [z]) := by
            show _ = _
            rw [List.take_add_one, List.getElem?_eq_getElem (by have := hzl.out; omega)]
            have h5 := hzv.out k hlt
            rw [hxk.out, hz.out, List.getD_eq_getElem?_getD, List.getElem?_eq_getElem (by have := hzl.out; omega)] at h5
            rw [← h5]; rfl
          have htl : Hid (k = (zs.take k).length) := by show _ = _; rw [List.length_take, hzl.out]; omega
          clear hown hb be4 e1
          go_wp2_with (refine wpList_append_byte w w4 rfl _ _ rfl u7 k (zs.take k) rfl htl.out hown4.out (z : Int) z rfl rfl (by have := s1.out; omega) hb4.out ?_; intro a' c' w' hown' hb'; replace hown' := hidIt hown'; replace hb' := hidIt hb')
          clear hown4 hb4
          go_roundw
          case rel => exact ⟨k + 1, by omega, by go_num, by rw [ht.out]; exact hown', hb'⟩
          case measure => simp [intOf]; omega
        · have t1 : ¬ (k : Int) < (len1 : Int) := by omega
          have hown2 : Hid (wr.ownsRow w.heap.size 5 1 u7 len1 (vals zs)) := by
            have h := hown.out
            rw [show k = len1 by omega, List.take_of_length_le (by have := hzl.out; omega)] at h
            exact h
          obtain ⟨a3, c3, rfl, hby, _⟩ := owned_bytes hown2.out hzl.out.symm
          have hby2 : Hid (Bytes wr a3 zs) := hby
          rw [hzl.out]
          clear hown hown2 hby
          go_wp2_with (fail)
          refine (interp_any a1 a3 len1 cap1 c3 xs zs n1.out hzl.out.symm hx.out hzb.out (by have := s1.out; omega) (fun j hj => basis_ne xs zs hx.out (hx.out j) j (fun i hi => (hd.out i j hi hj).symm)) _ (b1.out.below hb.out) hby2.out).mono ?_
          rintro e w5 ⟨⟨a5, m5, c5, rfl, hm5, hby5⟩, be5⟩
          obtain ⟨Q, hQ⟩ : ∃ Q, Hid ((ipL xs zs len1).1 = Q) := ⟨_, rfl⟩
          rw [hQ.out] at hm5 hby5
          have hQb : Hid (∀ i, Q.getD i 0 < 256) := by rw [← hQ.out]; exact (ipL_lt xs zs len1).1
          have hQl : Hid (Q.length ≤ len1) := by rw [← hQ.out]; exact ipL_len1 xs zs len1
          have hQe : Hid (Pl.d1 ps ≤ len1 → Q = Pl.trim ps) := fun h => by rw [← hQ.out]; exact unique_eq hp.out hx.out hzb.out hd.out hzv.out h
          have hm := hidIt hm5
          have y5 := hidIt hby5
          have hb5 := hidIt (then_below hb.out be5)
          have hdq : Hid (Pl.d1 Q ≤ len1) := Nat.le_trans (Pl.d1_le Q) hQl.out
          have hml : Hid (m5 ≤ 30) := by show _ ≤ _; rw [hm.out]; exact Nat.le_trans hQl.out s1.out
          obtain ⟨gq, hgq⟩ : ∃ g : Int, Hid ((Pl.d1 Q : Int) - 1 = g) := ⟨_, rfl⟩
          obtain ⟨gp, hgp⟩ : ∃ g : Int, Hid ((Pl.d1 ps : Int) - 1 = g) := ⟨_, rfl⟩
          have t2 : ¬ (len1 : Int) ≤ gq := by have := hgq.out; have := hdq.out; omega
          clear hm5 hby5 be5 hb hby2 hzv
          go_wp2_with (fail)
          refine (deg_is a5 m5 c5 Q gq hgq.out hm.out hQb.out (by have := hml.out; omega) _ y5.out).mono ?_
          rintro e w6 ⟨rfl, rfl⟩
          go_wp2_with (fail)
          refine (deg_is a0 len0 cap0 ps gp hgp.out n0.out hp.out (by have := s0.out; omega) _ (b0.out.below hb5.out)).mono ?_
          rintro e w6 ⟨rfl, rfl⟩
          clear hzs hzl hzb hQl
          by_cases hlow : gp < (len1 : Int)
          · have hQt : Hid (Q = Pl.trim ps) := hQe.out (by have := hgp.out; omega)
            clear hQe
            go_wp2_with (fail)
            refine (trimR_any a0 len0 cap0 ps n0.out hp.out (by have := s0.out; omega) _ (b0.out.below hb5.out)).mono ?_
            rintro e w6 ⟨⟨a6, m6, c6, rfl, hm6, hby6⟩, be6⟩
            have hm6' := hidIt hm6
            have y56 := hidIt (y5.out.below be6)
            have y6 := hidIt hby6
            have hb6 := hidIt (then_below hb5.out be6)
            clear hm6 hby6 be6 y5 hb5
            go_wp2_with (fail)
            refine (same6b a5 a6 m5 m6 c5 c6 Q (Pl.trim ps) true hm.out hm6'.out hQb.out (co_trim_lt hp.out) (decide_eq_true hQt.out) _ y56.out y6.out).mono ?_
            rintro e w7 ⟨rfl, be7⟩
            have hb7 := hidIt (then_below hb6.out be7)
            clear be7 hb6 y56 y6 hm6'
            by_cases hle : len2 = len1
            · have t3 : ((len2 : Int) != (len1 : Int)) = false := by simp; omega
              have t5 : (len2 : Int) = (len1 : Int) := by omega
              have n2' : Hid (len1 = ys.length) := by show _ = _; rw [← hle]; exact n2.out
              have k2 : Hid (∀ W, Bytes W a1 xs → Bytes W a2 ys → Calls Try.prog 22 #[.slice a1 len1 cap1, .slice a2 len2 cap2] W fun e w' => (∃ a m c, e = .returned (.tuple #[.slice a m c, .int .i64 0]) ∧ m = (ipL xs ys len1).1.length ∧ Bytes w' a (ipL xs ys len1).1) ∧ Below W.heap.size W w') := by
                intro W h1 h2
                rw [hle]
                exact interp_any a1 a2 len1 cap1 cap2 xs ys n1.out n2'.out hx.out hy.out (by have := s1.out; omega) (fun j hj => basis_ne xs ys hx.out (hx.out j) j (fun i hi => (hd.out i j hi hj).symm)) W h1 h2
              have hRv : Hid (∀ i, i < len1 → Pl.hor (xs.getD i 0) (ipL xs ys len1).1 = ys.getD i 0) := fun i hi => newton xs ys hx.out hy.out len1 hd.out i hi
              have hRb : Hid (∀ i, (ipL xs ys len1).1.getD i 0 < 256) := (ipL_lt xs ys len1).1
              have hRl : Hid ((ipL xs ys len1).1.length ≤ len1) := ipL_len1 xs ys len1
              obtain ⟨R, hR⟩ : ∃ R, Hid ((ipL xs ys len1).1 = R) := ⟨_, rfl⟩
              rw [hR.out] at k2 hRv hRb hRl
              clear hle hR
              go_wp2_with (fail)
              refine (k2.out _ (b1.out.below hb7.out) (b2.out.below hb7.out)).mono ?_
              rintro e w8 ⟨⟨a8, m8, c8, rfl, hm8, hby8⟩, be8⟩
              have hm8' := hidIt hm8
              have y8 := hidIt hby8
              have hb8 := hidIt (then_below hb7.out be8)
              have hml8 : Hid (m8 ≤ 30) := by show _ ≤ _; rw [hm8]; exact Nat.le_trans hRl.out s1.out
              obtain ⟨gr, hgr⟩ : ∃ g : Int, Hid ((Pl.d1 R : Int) - 1 = g) := ⟨_, rfl⟩
              have t6 : gr < (len1 : Int) := by have := hgr.out; have := Pl.d1_le R; have := hRl.out; omega
              clear hm8 hby8 be8 hb7 k2
              go_wp2_with (fail)
              go_loopw [82, 14, 15] (fun i _ _ wr => ∃ k : Nat, k ≤ len1 ∧ i = .int .i64 k ∧ Hid (Bytes wr a8 R) ∧ Hid (Below w.heap.size w wr)) (fun i _ _ _ => len1 - (intOf i).toNat)
              case atStart => exact ⟨0, by omega, rfl, y8, hb8⟩
              case round =>
                clear y8 hb8
                obtain ⟨k, hk, rfl, hRR, hb⟩ := hrel
                by_cases hlt : k < len1
                · obtain ⟨x, hxk⟩ : ∃ x, Hid (xs.getD k 0 = x) := ⟨_, rfl⟩
                  obtain ⟨y, hyk⟩ : ∃ y, Hid (ys.getD k 0 = y) := ⟨_, rfl⟩
                  have b1c := b1.out.below hb.out
                  have b2c := b2.out.below hb.out
                  obtain ⟨bx, ox, hax, e1⟩ := b1c k (by have := n1.out; omega)
                  obtain ⟨by', oy, hay, e2⟩ := b2c k (by have := n2'.out; omega)
                  rw [hxk.out] at e1
                  rw [hyk.out] at e2
                  have hax2 := hidIt hax
                  have hay2 := hidIt hay
                  subst hax hay
                  have xb : x < 256 := by rw [← hxk.out]; exact hx.out k
                  have hev : Hid (Pl.hor x R = y) := by show _ = _; rw [← hxk.out, ← hyk.out]; exact hRv.out k hlt
                  have t7 : (k : Int) < (len1 : Int) := by omega
                  have t8 : (k : Int) < (len2 : Int) := by omega
                  have s1' : len1 ≤ 30 := s1.out
                  have hsz2 := bytes_lt e2
                  have kev : Hid (∀ W, Below wr.heap.size wr W → Calls Try.prog 13 #[.slice a8 m8 c8, .int .u8 x] W fun e w' => e = .returned (.int .u8 (y : Int)) ∧ Below W.heap.size W w') := fun W hW => by
                    have := eval_any a8 m8 c8 x R hm8'.out hRb.out xb (by have := hml8.out; omega) W (hRR.out.below hW)
                    rwa [hev.out] at this
                  clear b1c b2c
                  go_wp2_with (fail)
                  go_region_held3 (fun w' => w'.cell? ⟨by', oy + k, none⟩ = some (.int .u8 (y : Int)) ∧ Below wr.heap.size wr w')
                    (first
                      | exact ⟨e2, (Below.refl _ _).drew⟩
                      | exact ⟨(hb9.cell (p := ⟨by', oy + k, none⟩) (Nat.lt_of_lt_of_le hsz2 (Nat.le_refl _))).trans e2, hb9⟩
                      | (go_split_ands; exact ⟨by assumption, by assumption⟩))
                    (first
                      | (go_at_call 13; refine (kev.out _ ((Below.refl _ _).drew)).mono ?_; rintro e w9 ⟨rfl, be9⟩; have hb9 := ((Below.refl wr.heap.size wr).drew).trans be9))
                  all_goals
                    have hR9 := hidIt (hRR.out.below hb9)
                    have hb10 := hidIt (then_below hb.out hb9)
                    clear hRR hb hb9 be9 kev e1 e2
                    go_wp2_with (fail)
                    go_roundw
                    case rel => exact ⟨k + 1, by omega, by go_num, hR9, hb10⟩
                    case measure => simp [intOf]; omega
                · have t7 : ¬ (k : Int) < (len1 : Int) := by omega
                  go_wp2_with (fail)
                  refine (deg_is a8 m8 c8 R gr hgr.out hm8'.out hRb.out (by have := hml8.out; omega) _ hRR.out).mono ?_
                  rintro e w9 ⟨rfl, rfl⟩
                  go_wp2_with (fail)
                  go_ret
                  exact ⟨rfl, hb.out⟩
            · have t3 : ((len2 : Int) != (len1 : Int)) = true := by simp; omega
              have t5 : ¬ (len2 : Int) = (len1 : Int) := by omega
              go_wp2_with (fail)
              go_ret
              exact ⟨rfl, hb7.out⟩
          · clear hQe
            have hb7 := hidIt hb5.out
            clear hb5 y5
            by_cases hle : len2 = len1
            · have t3 : ((len2 : Int) != (len1 : Int)) = false := by simp; omega
              have t5 : (len2 : Int) = (len1 : Int) := by omega
              have n2' : Hid (len1 = ys.length) := by show _ = _; rw [← hle]; exact n2.out
              have k2 : Hid (∀ W, Bytes W a1 xs → Bytes W a2 ys → Calls Try.prog 22 #[.slice a1 len1 cap1, .slice a2 len2 cap2] W fun e w' => (∃ a m c, e = .returned (.tuple #[.slice a m c, .int .i64 0]) ∧ m = (ipL xs ys len1).1.length ∧ Bytes w' a (ipL xs ys len1).1) ∧ Below W.heap.size W w') := by
                intro W h1 h2
                rw [hle]
                exact interp_any a1 a2 len1 cap1 cap2 xs ys n1.out n2'.out hx.out hy.out (by have := s1.out; omega) (fun j hj => basis_ne xs ys hx.out (hx.out j) j (fun i hi => (hd.out i j hi hj).symm)) W h1 h2
              have hRv : Hid (∀ i, i < len1 → Pl.hor (xs.getD i 0) (ipL xs ys len1).1 = ys.getD i 0) := fun i hi => newton xs ys hx.out hy.out len1 hd.out i hi
              have hRb : Hid (∀ i, (ipL xs ys len1).1.getD i 0 < 256) := (ipL_lt xs ys len1).1
              have hRl : Hid ((ipL xs ys len1).1.length ≤ len1) := ipL_len1 xs ys len1
              obtain ⟨R, hR⟩ : ∃ R, Hid ((ipL xs ys len1).1 = R) := ⟨_, rfl⟩
              rw [hR.out] at k2 hRv hRb hRl
              clear hle hR
              go_wp2_with (fail)
              refine (k2.out _ (b1.out.below hb7.out) (b2.out.below hb7.out)).mono ?_
              rintro e w8 ⟨⟨a8, m8, c8, rfl, hm8, hby8⟩, be8⟩
              have hm8' := hidIt hm8
              have y8 := hidIt hby8
              have hb8 := hidIt (then_below hb7.out be8)
              have hml8 : Hid (m8 ≤ 30) := by show _ ≤ _; rw [hm8]; exact Nat.le_trans hRl.out s1.out
              obtain ⟨gr, hgr⟩ : ∃ g : Int, Hid ((Pl.d1 R : Int) - 1 = g) := ⟨_, rfl⟩
              have t6 : gr < (len1 : Int) := by have := hgr.out; have := Pl.d1_le R; have := hRl.out; omega
              clear hm8 hby8 be8 hb7 k2
              go_wp2_with (fail)
              go_loopw [82, 14, 15] (fun i _ _ wr => ∃ k : Nat, k ≤ len1 ∧ i = .int .i64 k ∧ Hid (Bytes wr a8 R) ∧ Hid (Below w.heap.size w wr)) (fun i _ _ _ => len1 - (intOf i).toNat)
              case atStart => exact ⟨0, by omega, rfl, y8, hb8⟩
              case round =>
                clear y8 hb8
                obtain ⟨k, hk, rfl, hRR, hb⟩ := hrel
                by_cases hlt : k < len1
                · obtain ⟨x, hxk⟩ : ∃ x, Hid (xs.getD k 0 = x) := ⟨_, rfl⟩
                  obtain ⟨y, hyk⟩ : ∃ y, Hid (ys.getD k 0 = y) := ⟨_, rfl⟩
                  have b1c := b1.out.below hb.out
                  have b2c := b2.out.below hb.out
                  obtain ⟨bx, ox, hax, e1⟩ := b1c k (by have := n1.out; omega)
                  obtain ⟨by', oy, hay, e2⟩ := b2c k (by have := n2'.out; omega)
                  rw [hxk.out] at e1
                  rw [hyk.out] at e2
                  have hax2 := hidIt hax
                  have hay2 := hidIt hay
                  subst hax hay
                  have xb : x < 256 := by rw [← hxk.out]; exact hx.out k
                  have hev : Hid (Pl.hor x R = y) := by show _ = _; rw [← hxk.out, ← hyk.out]; exact hRv.out k hlt
                  have t7 : (k : Int) < (len1 : Int) := by omega
                  have t8 : (k : Int) < (len2 : Int) := by omega
                  have s1' : len1 ≤ 30 := s1.out
                  have hsz2 := bytes_lt e2
                  have kev : Hid (∀ W, Below wr.heap.size wr W → Calls Try.prog 13 #[.slice a8 m8 c8, .int .u8 x] W fun e w' => e = .returned (.int .u8 (y : Int)) ∧ Below W.heap.size W w') := fun W hW => by
                    have := eval_any a8 m8 c8 x R hm8'.out hRb.out xb (by have := hml8.out; omega) W (hRR.out.below hW)
                    rwa [hev.out] at this
                  clear b1c b2c
                  go_wp2_with (fail)
                  go_region_held3 (fun w' => w'.cell? ⟨by', oy + k, none⟩ = some (.int .u8 (y : Int)) ∧ Below wr.heap.size wr w')
                    (first
                      | exact ⟨e2, (Below.refl _ _).drew⟩
                      | exact ⟨(hb9.cell (p := ⟨by', oy + k, none⟩) (Nat.lt_of_lt_of_le hsz2 (Nat.le_refl _))).trans e2, hb9⟩
                      | (go_split_ands; exact ⟨by assumption, by assumption⟩))
                    (first
                      | (go_at_call 13; refine (kev.out _ ((Below.refl _ _).drew)).mono ?_; rintro e w9 ⟨rfl, be9⟩; have hb9 := ((Below.refl wr.heap.size wr).drew).trans be9))
                  all_goals
                    have hR9 := hidIt (hRR.out.below hb9)
                    have hb10 := hidIt (then_below hb.out hb9)
                    clear hRR hb hb9 be9 kev e1 e2
                    go_wp2_with (fail)
                    go_roundw
                    case rel => exact ⟨k + 1, by omega, by go_num, hR9, hb10⟩
                    case measure => simp [intOf]; omega
                · have t7 : ¬ (k : Int) < (len1 : Int) := by omega
                  go_wp2_with (fail)
                  refine (deg_is a8 m8 c8 R gr hgr.out hm8'.out hRb.out (by have := hml8.out; omega) _ hRR.out).mono ?_
                  rintro e w9 ⟨rfl, rfl⟩
                  go_wp2_with (fail)
                  go_ret
                  exact ⟨rfl, hb.out⟩
            · have t3 : ((len2 : Int) != (len1 : Int)) = true := by simp; omega
              have t5 : ¬ (len2 : Int) = (len1 : Int) := by omega
              go_wp2_with (fail)
              go_ret
              exact ⟨rfl, hb7.out⟩
end Go.Proofs.Ytcnjcfmgkkghjaa
