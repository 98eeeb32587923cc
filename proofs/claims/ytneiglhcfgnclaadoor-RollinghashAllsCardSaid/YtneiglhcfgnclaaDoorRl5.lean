import Derived.Test.YtneiglhcfgnclaaDoorRl4
namespace Go.Proofs.YtneiglhcfgnclaaDoor
open Go.RowKit
theorem sub_plain {w : World} {b off : Nat} {bs : List Nat} (h : Bytes w (some ⟨b, off, none⟩) bs) (pos size : Nat) : Bytes w (some ⟨b, off + pos, none⟩) ((bs.drop pos).take size) := by
  have := sub_bytes h pos size
  have e : ((some (⟨b, off, none⟩ : Addr)).map fun x => x.add pos) = some ⟨b, off + pos, none⟩ := by
    show some ((⟨b, off, none⟩ : Addr).add pos) = _
    congr 1; unfold Addr.add; split <;> simp_all
  rwa [e] at this
set_option maxRecDepth 100000 in
set_option maxHeartbeats 4000000 in
theorem ralls_walk (a : Option Addr) (len cap : Nat) (bs : List Nat) (s n : Int) (w : World) (hL : LaidZ w) (h0 : (Lit.int .u64 s).wf = true) (_h2 : (Lit.int .i64 n).wf = true) (h1 : RowB w a len cap bs) :
    Calls Tryd.prog 8 #[.int .u64 s, .int .i64 n, .slice a len cap] w fun e w' => e = .returned (.bool true) ∧ Below w.heap.size w w' := by
  obtain ⟨s, rfl, hs⟩ := nat_u64 h0
  clear h0 hs _h2
  obtain ⟨hB, rfl, -, hlt, hcap, -⟩ := h1
  by_cases h200 : 200 < bs.length
  · have t : (bs.length : Int) > 200 := by omega
    go_enter Tryd.func8, Tryd.ntmps8
    go_wp2_with (fail)
    refine (awake_any _ hL).mono ?_
    rintro e wz ⟨rfl, hbz⟩
    have HZ := hidIt hbz
    clear hbz
    go_wp2_with (fail)
    go_ret
    exact ⟨rfl, HZ.out⟩
  · have t : ¬ (bs.length : Int) > 200 := by omega
    by_cases hbad : n < 1 ∨ 64 < n
    · have cb : Hid (∀ W, Calls Tryd.prog 23 #[.int .u64 s, .int .i64 n, .slice a bs.length cap] W fun e w' => e = .returned (.tuple #[.slice none 0 0, .int .i64 1]) ∧ W = w') := fun W => allbad_any s n hbad a bs.length cap W
      by_cases hl1 : n < 1
      · clear hbad
        go_enter Tryd.func8, Tryd.ntmps8
        go_wp2_with (fail)
        refine (cb.out _).mono ?_
        rintro e w1 ⟨rfl, rfl⟩
        go_wp2_with (fail)
        refine (awake_any _ hL).mono ?_
        rintro e wz ⟨rfl, hbz⟩
        have HZ := hidIt hbz
        clear hbz
        go_wp2_with (fail)
        go_ret
        exact ⟨rfl, HZ.out⟩
      · have hl2 : n > 64 := by omega
        clear hbad
        go_enter Tryd.func8, Tryd.ntmps8
        go_wp2_with (fail)
        refine (cb.out _).mono ?_
        rintro e w1 ⟨rfl, rfl⟩
        go_wp2_with (fail)
        refine (awake_any _ hL).mono ?_
        rintro e wz ⟨rfl, hbz⟩
        have HZ := hidIt hbz
        clear hbz
        go_wp2_with (fail)
        go_ret
        exact ⟨rfl, HZ.out⟩
    · obtain ⟨win, rfl⟩ : ∃ win : Nat, n = win := ⟨n.toNat, by omega⟩
      have w1' : 1 ≤ win := by omega
      have w2' : win ≤ 64 := by omega
      have t1 : ¬ (win : Int) < 1 := by omega
      have t2 : ¬ (win : Int) > 64 := by omega
      have BB := hidIt hB
      have hlh := hidIt hlt
      clear hbad hB hlt
      obtain ⟨L, hL1⟩ : ∃ L, Hid ((whs (Rh.num s) win bs bs.length).length = L) := ⟨_, rfl⟩
      have hL2 : L = bs.length + 1 - win := by rw [← hL1.out, whs_len]
      have ca : Hid (∀ W, Bytes W a bs → Calls Tryd.prog 23 #[.int .u64 s, .int .i64 win, .slice a bs.length cap] W fun e w' => AllR w' e (whs (Rh.num s) win bs bs.length) ∧ Below W.heap.size W w') := fun W hW => all_any s win w1' w2' a cap bs (by omega) hcap hlh.out W hW
      by_cases hshort : bs.length < win
      · have hL0 : L = 0 := by omega
        have t3 : (bs.length : Int) < (win : Int) := by omega
        subst hL0
        clear hL2
        go_enter Tryd.func8, Tryd.ntmps8
        go_wp2_with (fail)
        refine (ca.out _ BB.out).mono ?_
        rintro e w1 ⟨⟨a3, c3, rfl, hc3, hU⟩, hb1⟩
        rw [hL1.out] at hc3 ⊢
        have H1 := hidIt hb1
        clear hU hb1
        go_wp2_with (fail)
        refine (awake_any _ (hL.below H1.out hL.two)).mono ?_
        rintro e wz ⟨rfl, hbz⟩
        have HZ := hidIt (below_then H1.out hbz)
        clear hbz
        go_wp2_with (fail)
        go_ret
        exact ⟨rfl, HZ.out⟩
      · have t3 : ¬ (bs.length : Int) < (win : Int) := by omega
        have t4 : (bs.length : Int) - (win : Int) + 1 = (L : Int) := by omega
        have hLl : L ≤ 1000 := by omega
        have hLw : Hid (L + win = bs.length + 1) := by show _ = _; omega
        clear hL2
        go_enter Tryd.func8, Tryd.ntmps8
        go_wp2_with (fail)
        refine (ca.out _ BB.out).mono ?_
        rintro e w1 ⟨⟨a3, c3, rfl, hc3, hU⟩, hb1⟩
        have H1 := hidIt hb1
        have U1 := hidIt hU
        rw [hL1.out] at hc3 ⊢
        clear hU hb1
        go_wp2_with (fail)
        go_loopw [9] (fun i wr => ∃ k : Nat, k ≤ L ∧ i = .int .i64 k ∧ Hid (Us wr a3 (whs (Rh.num s) win bs bs.length)) ∧ Hid (Below w.heap.size w wr)) (fun i _ => L - (intOf i).toNat)
        case atStart => exact ⟨0, by omega, rfl, U1, H1⟩
        case round =>
          obtain ⟨k, hk, rfl, U, hb⟩ := hrel
          clear U1 H1
          by_cases hlt2 : k < L
          · obtain ⟨q, qo, rfl, cu⟩ := U.out k (by rw [hL1.out]; exact hlt2)
            have hkl : k < bs.length := by have := hLw.out; omega
            have BW := hidIt (BB.out.below hb.out)
            obtain ⟨b, off, rfl, -⟩ := BB.out k hkl
            rw [whs_get (by have := hLw.out; omega)] at cu
            obtain ⟨hi, hhi⟩ : ∃ hi : Nat, (k : Int) + (win : Int) = (hi : Int) := ⟨k + win, by omega⟩
            have hhl : hi ≤ bs.length := by have := hLw.out; omega
            have hsl := fun W => sliceLoHi b off bs.length cap k hi (by omega) (by omega) W
            rw [show hi - k = win by omega] at hsl
            have hln : ((bs.drop k).take win).length = win := by rw [List.length_take, List.length_drop]; omega
            obtain ⟨y, hy⟩ : ∃ y, wh (Rh.num s) win bs k = y := ⟨_, rfl⟩
            have ch : Hid (∀ m, Calls Tryd.prog 15 #[.int .u64 s, .slice (some ⟨b, off + k, none⟩) win (cap - k)] (wr.drewN m) fun e w' => e = .returned (.int .u64 (y : Int)) ∧ wr.drewN m = w') := fun m => by
              rw [← hy]
              exact refhash_any s _ win (cap - k) ((bs.drop k).take win) hln.symm (by rw [hln]; exact w2') (by rw [hln]; omega) (fun x hx => hlh.out x (List.mem_of_mem_drop (List.mem_of_mem_take hx))) _ (sub_plain (BW.out.drewN m) k win)
            rw [hy] at cu
            have t6 : k < c3 := by omega
            have t7 : hi ≤ cap := by omega
            have t8 : k ≤ hi := by omega
            clear hy hln BW
            go_wp2_with (fail)
            go_quiet (first | (go_at_call 15; exact Calls.quiet_of_same ((ch.out _).mono fun _ _ z => ⟨z.1, z.2.symm⟩)))
            have U2 : Hid (Us (wr.drewN nq) (some ⟨q, qo, none⟩) (whs (Rh.num s) win bs bs.length)) := U.out
            have hb2 := hidIt (below_drewN hb.out nq)
            clear U hb cu ch hsl
            go_wp2_with (fail)
            go_roundw
            case rel => exact ⟨k + 1, by omega, by go_num, U2, hb2⟩
            case measure => simp [intOf]; omega
          · obtain rfl : k = L := by omega
            clear U
            go_wp2_with (fail)
            refine (awake_any _ (hL.below hb.out hL.two)).mono ?_
            rintro e wz ⟨rfl, hbz⟩
            have HZ := hidIt (below_then hb.out hbz)
            clear hbz
            go_wp2_with (fail)
            go_ret
            exact ⟨rfl, HZ.out⟩
end Go.Proofs.YtneiglhcfgnclaaDoor
