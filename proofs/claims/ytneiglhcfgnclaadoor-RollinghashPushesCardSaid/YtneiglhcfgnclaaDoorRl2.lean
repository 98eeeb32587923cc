import Derived.Test.YtneiglhcfgnclaaDoorRl1
namespace Go.Proofs.YtneiglhcfgnclaaDoor
open Go.RowKit
theorem min_last (win : Nat) (ys : List Nat) : (Rh.last win ys).length = min ys.length win := Rh.last_len win ys
theorem bytes_take {w : World} {a : Option Addr} {bs : List Nat} (h : Bytes w a bs) (k : Nat) : Bytes w a (bs.take k) := by
  intro i hi
  rw [List.length_take] at hi
  obtain ⟨b, off, h1, h2⟩ := h i (by omega)
  refine ⟨b, off, h1, ?_⟩
  rw [h2]
  have : (bs.take k).getD i 0 = bs.getD i 0 := by
    rw [List.getD_eq_getElem?_getD, List.getD_eq_getElem?_getD, List.getElem?_take, if_pos (by omega)]
  rw [this]
theorem mem_take256 {bs : List Nat} (h : ∀ x ∈ bs, x < 256) (k : Nat) : ∀ x ∈ bs.take k, x < 256 := fun x hx => h x (List.mem_of_mem_take hx)
theorem mem_last256 {bs : List Nat} (h : ∀ x ∈ bs, x < 256) (n : Nat) : ∀ x ∈ Rh.last n bs, x < 256 := fun x hx => h x (List.mem_of_mem_drop hx)
set_option maxRecDepth 100000 in
set_option maxHeartbeats 4000000 in
theorem rpushes_walk (a : Option Addr) (len cap : Nat) (bs : List Nat) (s n : Int) (w : World) (hL : LaidZ w) (h0 : (Lit.int .u64 s).wf = true) (_h2 : (Lit.int .i64 n).wf = true) (h1 : RowB w a len cap bs) :
    Calls Tryd.prog 5 #[.int .u64 s, .int .i64 n, .slice a len cap] w fun e w' => e = .returned (.bool true) ∧ Below w.heap.size w w' := by
  obtain ⟨s, rfl, hs⟩ := nat_u64 h0
  clear h0 hs _h2
  obtain ⟨hB, rfl, -, hlt, hcap, -⟩ := h1
  by_cases h150 : 150 < bs.length
  · have t : (bs.length : Int) > 150 := by omega
    go_enter Tryd.func5, Tryd.ntmps5
    go_wp2_with (fail)
    refine (awake_any _ hL).mono ?_
    rintro e wz ⟨rfl, hbz⟩
    have HZ := hidIt (hbz)
    clear hbz
    go_wp2_with (fail)
    go_ret
    exact ⟨rfl, HZ.out⟩
  · have t : ¬ (bs.length : Int) > 150 := by omega
    have BB := hidIt hB
    have hlth := hidIt hlt
    clear hB hlt
    obtain ⟨win, hwin⟩ : ∃ win, wnd n = win := ⟨_, rfl⟩
    have w1' := (wnd_ok n).1
    have w2' := (wnd_ok n).2
    rw [hwin] at w1' w2'
    have cw : Hid (∀ W, Calls Tryd.prog 21 #[.int .i64 n] W fun e w' => e = .returned (.int .i64 (win : Int)) ∧ W = w') := fun W => by rw [← hwin]; exact refwin_any n W
    go_enter Tryd.func5, Tryd.ntmps5
    go_wp2_with (fail)
    refine (new_any s n _).mono ?_
    rintro e w1 ⟨g, rfl, hg, hS, hb1⟩
    rw [hwin] at hS
    have S1 := hidIt hS
    have gw := hidIt hg
    have H1 := hidIt hb1
    clear hS hg hb1
    go_wp2_with (fail)
    refine (len_any g (Rh.num s) win [] _ S1).mono ?_
    rintro e w2 ⟨rfl, rfl⟩
    rw [show min ([] : List Nat).length win = 0 from Nat.zero_min _]
    go_wp2_with (fail)
    refine (sum_any g (Rh.num s) win [] _ S1).mono ?_
    rintro e w2 ⟨rfl, rfl⟩
    rw [show Rh.hsh (Rh.num s) (Rh.last win []) = 0 by unfold Rh.last; rw [List.drop_nil]; rfl]
    go_wp2_with (fail)
    go_loopw [8, 9] (fun i _ wr => ∃ k : Nat, k ≤ bs.length ∧ i = .int .i64 k ∧ Hid (RS wr g (Rh.num s) win (bs.take k)) ∧ Hid (Below w.heap.size w wr)) (fun i _ _ => bs.length - (intOf i).toNat)
    case atStart => exact ⟨0, by omega, rfl, S1, H1⟩
    case round =>
      obtain ⟨k, hk, rfl, R, hb⟩ := hrel
      clear S1 H1
      by_cases hlt2 : k < bs.length
      · have BW := hidIt (BB.out.below hb.out)
        obtain ⟨b, off, rfl, hc2⟩ := BB.out k hlt2
        have cb := (hb.out.cell (p := ⟨b, off + k, none⟩) (bytes_lt hc2)).trans hc2
        have lb := mem_getD hlth.out (k := k)
        have hts := hidIt (take_snoc bs k hlt2)
        have lk : (bs.take k).length ≤ 1000000 := by rw [List.length_take]; omega
        have hl1 : (bs.take (k + 1)).length = k + 1 := by rw [List.length_take]; omega
        generalize bs.getD k 0 = x at cb lb hts
        have t1 : k < cap := by omega
        have hsl := fun W => sliceTo b off bs.length cap (k + 1) (by omega) W
        obtain ⟨a2, c2, hlv, hlc, hlB⟩ := lastV_ok (some ⟨b, off, none⟩) cap (bs.take (k + 1)) win (by rw [hl1]; omega)
        rw [hl1] at hlv
        have BW1 := hidIt (hlB _ (bytes_take BW.out (k + 1)))
        have ll := mem_last256 (mem_take256 hlth.out (k + 1)) win
        have ll2 : (Rh.last win (bs.take (k + 1))).length ≤ 64 := by rw [Rh.last_len]; omega
        have hlen : Hid (min (bs.take (k + 1)).length win = (Rh.last win (bs.take (k + 1))).length) := (Rh.last_len win _).symm
        obtain ⟨ys, hys⟩ : ∃ ys, Hid (Rh.last win (bs.take (k + 1)) = ys) := ⟨_, rfl⟩
        rw [hys.out] at hlv hlc hlB ll ll2 hlen BW1
        have hBS := hidIt hlB
        have hlvh := hidIt hlv
        have cl : Hid (∀ W, Calls Tryd.prog 20 #[.slice (some ⟨b, off, none⟩) (k + 1) cap, .int .i64 (win : Int)] W fun e w' => e = .returned (.slice a2 ys.length c2) ∧ W = w') := fun W => by rw [← hlvh.out]; exact reflast_any _ (k + 1) cap win (by omega) (by omega) w1' w2' W
        clear hc2 hlB hlv BW
        go_wp2_with (fail)
        refine (push_any g (Rh.num s) win (bs.take k) x lb lk _ R).mono ?_
        rintro e w2 ⟨rfl, hS2, hg2⟩
        have R2 : Hid (RS w2 g (Rh.num s) win (bs.take (k + 1))) := by rw [hts.out]; exact hS2
        have hb2 : Hid (Below w.heap.size w w2) := hb.out.trans (below_g hg2 gw.out R.out.lt)
        have BY : Hid (Bytes w2 a2 ys) := hBS.out _ (bytes_take (BB.out.below hb2.out) (k + 1))
        clear hS2 hg2 cb BW1 hBS
        go_wp2_with (fail)
        go_quiet (first | (go_at_call 21; exact Calls.quiet_of_same ((cw.out _).mono fun _ _ z => ⟨z.1, z.2.symm⟩)) | (go_at_call 20; exact Calls.quiet_of_same ((cl.out _).mono fun _ _ z => ⟨z.1, z.2.symm⟩)))
        have R3 : Hid (RS (w2.drewN nq) g (Rh.num s) win (bs.take (k + 1))) := R2.out.below (below_drewN (Below.refl w2.heap.size w2) nq) R2.out.lt
        have hb3 := hidIt (below_drewN hb2.out nq)
        have BY3 : Hid (Bytes (w2.drewN nq) a2 ys) := BY.out.drewN nq
        generalize w2.drewN nq = w3 at *
        clear R2 hb2 BY cl hsl
        go_wp2_with (fail)
        refine (len_any g (Rh.num s) win _ _ R3).mono ?_
        rintro e w4 ⟨rfl, rfl⟩
        rw [hlen.out]
        go_wp2_with (fail)
        refine (sum_any g (Rh.num s) win _ _ R3).mono ?_
        rintro e w4 ⟨rfl, rfl⟩
        rw [hys.out]
        obtain ⟨y, hy⟩ : ∃ y, Hid (Rh.hsh (Rh.num s) ys = y) := ⟨_, rfl⟩
        rw [hy.out]
        go_wp2_with (fail)
        refine (refhash_any s a2 ys.length c2 ys rfl ll2 hlc ll _ BY3.out).mono ?_
        rintro e w4 ⟨rfl, rfl⟩
        rw [hy.out]
        go_wp2_with (fail)
        go_roundw
        case rel => exact ⟨k + 1, by omega, by go_num, R3, hb3⟩
        case measure => simp [intOf]; omega
      · obtain rfl : k = bs.length := by omega
        clear R
        go_wp2_with (fail)
        refine (awake_any _ (hL.below hb.out hL.two)).mono ?_
        rintro e wz ⟨rfl, hbz⟩
        have HZ := hidIt (below_then hb.out hbz)
        clear hbz
        go_wp2_with (fail)
        go_ret
        exact ⟨rfl, HZ.out⟩
set_option maxRecDepth 100000 in
set_option maxHeartbeats 4000000 in
theorem rresets_walk (a a' : Option Addr) (len cap len' cap' : Nat) (xs bs : List Nat) (s n : Int) (w : World) (hL : LaidZ w) (h0 : (Lit.int .u64 s).wf = true) (_h2 : (Lit.int .i64 n).wf = true) (h1 : RowB w a len cap xs) (h2 : RowB w a' len' cap' bs) :
    Calls Tryd.prog 6 #[.int .u64 s, .int .i64 n, .slice a len cap, .slice a' len' cap'] w fun e w' => e = .returned (.bool true) ∧ Below w.heap.size w w' := by
  obtain ⟨s, rfl, hs⟩ := nat_u64 h0
  clear h0 hs _h2
  obtain ⟨hA, rfl, -, hlta, hcapa, -⟩ := h1
  obtain ⟨hB, rfl, -, hltb, hcapb, -⟩ := h2
  by_cases h150 : 150 < xs.length
  · have t : (xs.length : Int) > 150 := by omega
    go_enter Tryd.func6, Tryd.ntmps6
    go_wp2_with (fail)
    refine (awake_any _ hL).mono ?_
    rintro e wz ⟨rfl, hbz⟩
    have HZ := hidIt (hbz)
    clear hbz
    go_wp2_with (fail)
    go_ret
    exact ⟨rfl, HZ.out⟩
  · by_cases h151 : 150 < bs.length
    · have t : ¬ (xs.length : Int) > 150 := by omega
      have t2 : (bs.length : Int) > 150 := by omega
      go_enter Tryd.func6, Tryd.ntmps6
      go_wp2_with (fail)
      refine (awake_any _ hL).mono ?_
      rintro e wz ⟨rfl, hbz⟩
      have HZ := hidIt (hbz)
      clear hbz
      go_wp2_with (fail)
      go_ret
      exact ⟨rfl, HZ.out⟩
    · have t : ¬ (xs.length : Int) > 150 := by omega
      have t2 : ¬ (bs.length : Int) > 150 := by omega
      have AA := hidIt hA
      have BB := hidIt hB
      have hlah := hidIt hlta
      have hlbh := hidIt hltb
      clear hA hB hlta hltb
      obtain ⟨win, hwin⟩ : ∃ win, wnd n = win := ⟨_, rfl⟩
      go_enter Tryd.func6, Tryd.ntmps6
      go_wp2_with (fail)
      refine (new_any s n _).mono ?_
      rintro e w1 ⟨g, rfl, hg, hS, hb1⟩
      rw [hwin] at hS
      have S1 := hidIt hS
      have gw := hidIt hg
      have H1 := hidIt hb1
      clear hS hg hb1
      go_wp2_with (fail)
      refine (new_any s n _).mono ?_
      rintro e w2 ⟨m, rfl, hm, hS, hb2⟩
      rw [hwin] at hS
      have T2 := hidIt hS
      have S2 := hidIt (S1.out.below hb2 S1.out.lt)
      have hgm : g ≠ m := by have := S1.out.lt; omega
      have mw : Hid (w.heap.size ≤ m) := by show _ ≤ _; have := H1.out.size; omega
      have H2 := hidIt (below_then H1.out hb2)
      clear hS hm hb2 S1 H1
      go_wp2_with (fail)
      go_loopw [11] (fun i wr => ∃ k : Nat, k ≤ xs.length ∧ i = .int .i64 k ∧ Hid (RS wr g (Rh.num s) win (xs.take k)) ∧ Hid (RS wr m (Rh.num s) win []) ∧ Hid (Below w.heap.size w wr)) (fun i _ => xs.length - (intOf i).toNat)
      case atStart => exact ⟨0, by omega, rfl, S2, T2, H2⟩
      case round =>
        obtain ⟨k, hk, rfl, R, T, hb⟩ := hrel
        clear S2 T2 H2
        by_cases hlt2 : k < xs.length
        · obtain ⟨b, off, rfl, hc2⟩ := AA.out k hlt2
          have cb := (hb.out.cell (p := ⟨b, off + k, none⟩) (bytes_lt hc2)).trans hc2
          have lb := mem_getD hlah.out (k := k)
          have hts := hidIt (take_snoc xs k hlt2)
          have lk : (xs.take k).length ≤ 1000000 := by rw [List.length_take]; omega
          generalize xs.getD k 0 = x at cb lb hts
          have t1 : k < cap := by omega
          clear hc2
          go_wp2_with (fail)
          refine (push_any g (Rh.num s) win (xs.take k) x lb lk _ R).mono ?_
          rintro e w3 ⟨rfl, hSx, hgx⟩
          have R2 : Hid (RS w3 g (Rh.num s) win (xs.take (k + 1))) := by rw [hts.out]; exact hSx
          have T2 : Hid (RS w3 m (Rh.num s) win []) := T.out.grown hgx (by simp; omega)
          have hb2 : Hid (Below w.heap.size w w3) := hb.out.trans (below_g hgx gw.out R.out.lt)
          clear hSx hgx
          clear cb
          go_wp2_with (fail)
          go_roundw
          case rel => exact ⟨k + 1, by omega, by go_num, R2, T2, hb2⟩
          case measure => simp [intOf]; omega
        · obtain rfl : k = xs.length := by omega
          rw [List.take_length] at R
          go_wp2_with (fail)
          refine (reset_any g (Rh.num s) win xs _ R).mono ?_
          rintro e w4 ⟨rfl, hSx, hgx⟩
          have S4 := hidIt hSx
          have T4 : Hid (RS w4 m (Rh.num s) win []) := T.out.grown hgx (by simp; omega)
          have H4 : Hid (Below w.heap.size w w4) := hb.out.trans (below_g hgx gw.out R.out.lt)
          clear hSx hgx R T hb
          go_wp2_with (fail)
          go_loopw [12] (fun i wr => ∃ k : Nat, k ≤ bs.length ∧ i = .int .i64 k ∧ Hid (RS wr g (Rh.num s) win (bs.take k)) ∧ Hid (RS wr m (Rh.num s) win (bs.take k)) ∧ Hid (Below w.heap.size w wr)) (fun i _ => bs.length - (intOf i).toNat)
          case atStart => exact ⟨0, by omega, rfl, S4, T4, H4⟩
          case round =>
            obtain ⟨k, hk, rfl, R, T, hb⟩ := hrel
            clear S4 T4 H4
            by_cases hlt2 : k < bs.length
            · obtain ⟨b, off, rfl, hc2⟩ := BB.out k hlt2
              have cb := (hb.out.cell (p := ⟨b, off + k, none⟩) (bytes_lt hc2)).trans hc2
              have lb := mem_getD hlbh.out (k := k)
              have hts := hidIt (take_snoc bs k hlt2)
              have lk : (bs.take k).length ≤ 1000000 := by rw [List.length_take]; omega
              generalize bs.getD k 0 = x at hc2 cb lb hts
              have t1 : k < cap' := by omega
              go_wp2_with (fail)
              refine (push_any g (Rh.num s) win (bs.take k) x lb lk _ R).mono ?_
              rintro e w5 ⟨rfl, hSx, hgx⟩
              have R2 : Hid (RS w5 g (Rh.num s) win (bs.take (k + 1))) := by rw [hts.out]; exact hSx
              have T2 : Hid (RS w5 m (Rh.num s) win (bs.take k)) := T.out.grown hgx (by simp; omega)
              have hb2 : Hid (Below w.heap.size w w5) := hb.out.trans (below_g hgx gw.out R.out.lt)
              clear hSx hgx
              have cb2 := (hb2.out.cell (p := ⟨b, off + k, none⟩) (bytes_lt hc2)).trans hc2
              clear cb R T hb
              go_wp2_with (fail)
              refine (push_any m (Rh.num s) win (bs.take k) x lb lk _ T2).mono ?_
              rintro e w6 ⟨rfl, hSx, hgx⟩
              have T3 : Hid (RS w6 m (Rh.num s) win (bs.take (k + 1))) := by rw [hts.out]; exact hSx
              have R3 : Hid (RS w6 g (Rh.num s) win (bs.take (k + 1))) := R2.out.grown hgx (by simp; omega)
              have hb3 : Hid (Below w.heap.size w w6) := hb2.out.trans (below_g hgx mw.out T2.out.lt)
              clear hSx hgx
              clear cb2 R2 T2 hb2 hc2
              go_wp2_with (fail)
              go_roundw
              case rel => exact ⟨k + 1, by omega, by go_num, R3, T3, hb3⟩
              case measure => simp [intOf]; omega
            · obtain rfl : k = bs.length := by omega
              rw [List.take_length] at R T
              go_wp2_with (fail)
              refine (awake_any _ (hL.below hb.out hL.two)).mono ?_
              rintro e wz ⟨rfl, hbz⟩
              have R7 := hidIt (R.out.below hbz R.out.lt)
              have T7 := hidIt (T.out.below hbz T.out.lt)
              have HZ := hidIt (below_then hb.out hbz)
              clear hbz R T hb
              go_wp2_with (fail)
              refine (sum_any g (Rh.num s) win _ _ R7).mono ?_
              rintro e w4 ⟨rfl, rfl⟩
              go_wp2_with (fail)
              refine (sum_any m (Rh.num s) win _ _ T7).mono ?_
              rintro e w4 ⟨rfl, rfl⟩
              go_wp2_with (fail)
              refine (len_any g (Rh.num s) win _ _ R7).mono ?_
              rintro e w4 ⟨rfl, rfl⟩
              go_wp2_with (fail)
              refine (len_any m (Rh.num s) win _ _ T7).mono ?_
              rintro e w4 ⟨rfl, rfl⟩
              go_wp2_with (fail)
              go_ret
              exact ⟨rfl, HZ.out⟩
end Go.Proofs.YtneiglhcfgnclaaDoor
