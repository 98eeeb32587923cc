import Derived.Test.YtneiglhcfgnclaaDoorRl2
namespace Go.Proofs.YtneiglhcfgnclaaDoor
open Go.RowKit
theorem last_app (win : Nat) (xs bs : List Nat) (h : win ≤ bs.length) : Rh.last win (xs ++ bs) = Rh.last win bs := by
  unfold Rh.last
  rw [List.length_append, List.drop_append, List.drop_of_length_le (by omega), List.nil_append, show xs.length + bs.length - win - xs.length = bs.length - win by omega]
set_option maxRecDepth 100000 in
set_option maxHeartbeats 4000000 in
theorem rforgets_walk (a a' : Option Addr) (len cap len' cap' : Nat) (xs bs : List Nat) (s n : Int) (w : World) (hL : LaidZ w) (h0 : (Lit.int .u64 s).wf = true) (_h2 : (Lit.int .i64 n).wf = true) (h1 : RowB w a len cap xs) (h2 : RowB w a' len' cap' bs) :
    Calls Tryd.prog 7 #[.int .u64 s, .int .i64 n, .slice a len cap, .slice a' len' cap'] w fun e w' => e = .returned (.bool true) ∧ Below w.heap.size w w' := by
  obtain ⟨s, rfl, hs⟩ := nat_u64 h0
  clear h0 hs _h2
  obtain ⟨hA, rfl, -, hlta, hcapa, -⟩ := h1
  obtain ⟨hB, rfl, -, hltb, hcapb, -⟩ := h2
  obtain ⟨win, hwin⟩ : ∃ win, wnd n = win := ⟨_, rfl⟩
  have w1' := (wnd_ok n).1
  have w2' := (wnd_ok n).2
  rw [hwin] at w1' w2'
  have cw : Hid (∀ W, Calls Tryd.prog 21 #[.int .i64 n] W fun e w' => e = .returned (.int .i64 (win : Int)) ∧ W = w') := fun W => by rw [← hwin]; exact refwin_any n W
  by_cases h150 : 150 < xs.length
  · have t : (xs.length : Int) > 150 := by omega
    go_enter Tryd.func7, Tryd.ntmps7
    go_wp2_with (fail)
    refine (awake_any _ hL).mono ?_
    rintro e wz ⟨rfl, hbz⟩
    have HZ := hidIt (hbz)
    clear hbz
    go_wp2_with (fail)
    go_ret
    exact ⟨rfl, HZ.out⟩
  · by_cases h151 : 150 < bs.length
    · have t : ¬ (xs.length : Int) > 150 := by omega
      have t2 : (bs.length : Int) > 150 := by omega
      go_enter Tryd.func7, Tryd.ntmps7
      go_wp2_with (fail)
      refine (awake_any _ hL).mono ?_
      rintro e wz ⟨rfl, hbz⟩
      have HZ := hidIt (hbz)
      clear hbz
      go_wp2_with (fail)
      go_ret
      exact ⟨rfl, HZ.out⟩
    · by_cases hw : bs.length < win
      · have t : ¬ (xs.length : Int) > 150 := by omega
        have t2 : ¬ (bs.length : Int) > 150 := by omega
        have t3 : (bs.length : Int) < (win : Int) := by omega
        go_enter Tryd.func7, Tryd.ntmps7
        go_wp2_with (fail)
        refine (cw.out _).mono ?_
        rintro e w0 ⟨rfl, rfl⟩
        go_wp2_with (fail)
        refine (awake_any _ hL).mono ?_
        rintro e wz ⟨rfl, hbz⟩
        have HZ := hidIt (hbz)
        clear hbz
        go_wp2_with (fail)
        go_ret
        exact ⟨rfl, HZ.out⟩
      · have t : ¬ (xs.length : Int) > 150 := by omega
        have t2 : ¬ (bs.length : Int) > 150 := by omega
        have t3 : ¬ (bs.length : Int) < (win : Int) := by omega
        have AA := hidIt hA
        have BB := hidIt hB
        have hlah := hidIt hlta
        have hlbh := hidIt hltb
        clear hA hB hlta hltb
        obtain ⟨a2, c2, hlv, hlc, hlB⟩ := lastV_ok a' cap' bs win hcapb
        have hlvh := hidIt hlv
        have hBS := hidIt hlB
        clear hlv hlB
        have ll := mem_last256 hlbh.out win
        have ll2 : (Rh.last win bs).length ≤ 64 := by rw [Rh.last_len]; omega
        have hap := hidIt (last_app win xs bs (by omega))
        obtain ⟨ys, hys⟩ : ∃ ys, Hid (Rh.last win bs = ys) := ⟨_, rfl⟩
        rw [hys.out] at hlvh hlc hBS ll ll2 hap
        have cl : Hid (∀ W, Calls Tryd.prog 20 #[.slice a' bs.length cap', .int .i64 (win : Int)] W fun e w' => e = .returned (.slice a2 ys.length c2) ∧ W = w') := fun W => by rw [← hlvh.out]; exact reflast_any _ bs.length cap' win hcapb (by omega) w1' w2' W
        go_enter Tryd.func7, Tryd.ntmps7
        go_wp2_with (fail)
        refine (cw.out _).mono ?_
        rintro e w0 ⟨rfl, rfl⟩
        go_wp2_with (fail)
        refine (new_any s n _).mono ?_
        rintro e w1 ⟨g, rfl, hg, hS, hb1⟩
        rw [hwin] at hS
        have S1 := hidIt hS
        have gw := hidIt hg
        have H1 := hidIt hb1
        clear hS hg hb1
        go_wp2_with (fail)
        refine (new_any s n _).mono ?_
        rintro e w2 ⟨m, rfl, hm, hS, hb2⟩
        rw [hwin] at hS
        have T2 := hidIt hS
        have S2 := hidIt (S1.out.below hb2 S1.out.lt)
        have hgm : g ≠ m := by have := S1.out.lt; omega
        have mw : Hid (w.heap.size ≤ m) := by show _ ≤ _; have := H1.out.size; omega
        have H2 := hidIt (below_then H1.out hb2)
        clear hS hm hb2 S1 H1
        go_wp2_with (fail)
        go_loopw [11] (fun i wr => ∃ k : Nat, k ≤ xs.length ∧ i = .int .i64 k ∧ Hid (RS wr g (Rh.num s) win (xs.take k)) ∧ Hid (RS wr m (Rh.num s) win []) ∧ Hid (Below w.heap.size w wr)) (fun i _ => xs.length - (intOf i).toNat)
        case atStart => exact ⟨0, by omega, rfl, S2, T2, H2⟩
        case round =>
          obtain ⟨k, hk, rfl, R, T, hb⟩ := hrel
          clear S2 T2 H2
          by_cases hlt2 : k < xs.length
          · obtain ⟨b, off, rfl, hc2⟩ := AA.out k hlt2
            have cb := (hb.out.cell (p := ⟨b, off + k, none⟩) (bytes_lt hc2)).trans hc2
            have lb := mem_getD hlah.out (k := k)
            have hts := hidIt (take_snoc xs k hlt2)
            have lk : (xs.take k).length ≤ 1000000 := by rw [List.length_take]; omega
            generalize xs.getD k 0 = x at cb lb hts
            have t1 : k < cap := by omega
            clear hc2
            go_wp2_with (fail)
            refine (push_any g (Rh.num s) win (xs.take k) x lb lk _ R).mono ?_
            rintro e w3 ⟨rfl, hSx, hgx⟩
            have R2 : Hid (RS w3 g (Rh.num s) win (xs.take (k + 1))) := by rw [hts.out]; exact hSx
            have T2 : Hid (RS w3 m (Rh.num s) win []) := T.out.grown hgx (by simp; omega)
            have hb2 : Hid (Below w.heap.size w w3) := hb.out.trans (below_g hgx gw.out R.out.lt)
            clear hSx hgx
            clear cb
            go_wp2_with (fail)
            go_roundw
            case rel => exact ⟨k + 1, by omega, by go_num, R2, T2, hb2⟩
            case measure => simp [intOf]; omega
          · obtain rfl : k = xs.length := by omega
            rw [List.take_length] at R
            go_wp2_with (fail)
            have S4 : Hid (RS wr g (Rh.num s) win xs) := R
            clear R
            obtain ⟨T4, H4⟩ : Hid (RS wr m (Rh.num s) win []) ∧ Hid (Below w.heap.size w wr) := ⟨T, hb⟩
            clear T hb
            go_loopw [12] (fun i wr => ∃ k : Nat, k ≤ bs.length ∧ i = .int .i64 k ∧ Hid (RS wr g (Rh.num s) win (xs ++ bs.take k)) ∧ Hid (RS wr m (Rh.num s) win (bs.take k)) ∧ Hid (Below w.heap.size w wr)) (fun i _ => bs.length - (intOf i).toNat)
            case atStart => exact ⟨0, by omega, rfl, by rw [List.take_zero, List.append_nil]; exact S4, T4, H4⟩
            case round =>
              obtain ⟨k, hk, rfl, R, T, hb⟩ := hrel
              clear S4 T4 H4
              by_cases hlt2 : k < bs.length
              · obtain ⟨b, off, rfl, hc2⟩ := BB.out k hlt2
                have cb := (hb.out.cell (p := ⟨b, off + k, none⟩) (bytes_lt hc2)).trans hc2
                have lb := mem_getD hlbh.out (k := k)
                have hts := hidIt (take_snoc bs k hlt2)
                have lk : (bs.take k).length ≤ 1000000 := by rw [List.length_take]; omega
                generalize bs.getD k 0 = x at hc2 cb lb hts
                have t1 : k < cap' := by omega
                go_wp2_with (fail)
                refine (push_any g (Rh.num s) win (xs ++ bs.take k) x lb (by rw [List.length_append, List.length_take]; omega) _ R).mono ?_
                rintro e w5 ⟨rfl, hSx, hgx⟩
                have R2 : Hid (RS w5 g (Rh.num s) win (xs ++ bs.take (k + 1))) := by rw [hts.out, ← List.append_assoc]; exact hSx
                have T2 : Hid (RS w5 m (Rh.num s) win (bs.take k)) := T.out.grown hgx (by simp; omega)
                have hb2 : Hid (Below w.heap.size w w5) := hb.out.trans (below_g hgx gw.out R.out.lt)
                clear hSx hgx
                have cb2 := (hb2.out.cell (p := ⟨b, off + k, none⟩) (bytes_lt hc2)).trans hc2
                clear cb R T hb
                go_wp2_with (fail)
                refine (push_any m (Rh.num s) win (bs.take k) x lb lk _ T2).mono ?_
                rintro e w6 ⟨rfl, hSx, hgx⟩
                have T3 : Hid (RS w6 m (Rh.num s) win (bs.take (k + 1))) := by rw [hts.out]; exact hSx
                have R3 : Hid (RS w6 g (Rh.num s) win (xs ++ bs.take (k + 1))) := R2.out.grown hgx (by simp; omega)
                have hb3 : Hid (Below w.heap.size w w6) := hb2.out.trans (below_g hgx mw.out T2.out.lt)
                clear hSx hgx
                clear cb2 R2 T2 hb2 hc2
                go_wp2_with (fail)
                go_roundw
                case rel => exact ⟨k + 1, by omega, by go_num, R3, T3, hb3⟩
                case measure => simp [intOf]; omega
              · obtain rfl : k = bs.length := by omega
                rw [List.take_length] at R T
                go_wp2_with (fail)
                refine (cw.out _).mono ?_
                rintro e w7 ⟨rfl, rfl⟩
                go_wp2_with (fail)
                refine (cl.out _).mono ?_
                rintro e w7 ⟨rfl, rfl⟩
                go_wp2_with (fail)
                obtain ⟨y, hy⟩ : ∃ y, Hid (Rh.hsh (Rh.num s) ys = y) := ⟨_, rfl⟩
                refine (of_any s a2 c2 ys ll2 hlc ll _ (hBS.out _ (BB.out.below hb.out))).mono ?_
                rintro e w7 ⟨rfl, hb7⟩
                rw [hy.out]
                have R6 := hidIt (R.out.below hb7 R.out.lt)
                have T6 := hidIt (T.out.below hb7 T.out.lt)
                have H6 := hidIt (below_then hb.out hb7)
                clear hb7 R T hb
                go_wp2_with (fail)
                refine (awake_any _ (hL.below H6.out hL.two)).mono ?_
                rintro e wz ⟨rfl, hbz⟩
                have R7 := hidIt (R6.out.below hbz R6.out.lt)
                have T7 := hidIt (T6.out.below hbz T6.out.lt)
                have HZ := hidIt (below_then H6.out hbz)
                clear hbz R6 T6 H6
                go_wp2_with (fail)
                refine (sum_any g (Rh.num s) win _ _ R7).mono ?_
                rintro e w4 ⟨rfl, rfl⟩
                rw [hap.out, hy.out]
                go_wp2_with (fail)
                refine (sum_any m (Rh.num s) win _ _ T7).mono ?_
                rintro e w4 ⟨rfl, rfl⟩
                rw [hys.out, hy.out]
                go_wp2_with (fail)
                refine (sum_any g (Rh.num s) win _ _ R7).mono ?_
                rintro e w4 ⟨rfl, rfl⟩
                rw [hap.out, hy.out]
                go_wp2_with (fail)
                go_ret
                exact ⟨rfl, HZ.out⟩
end Go.Proofs.YtneiglhcfgnclaaDoor
