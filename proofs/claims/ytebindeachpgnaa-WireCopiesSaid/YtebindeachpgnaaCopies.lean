import Derived.Test.YtebindeachpgnaaCopies1
namespace Go.Proofs.Ytebindeachpgnaa
open Go.RowKit
theorem ret_b {p : Bool} (h : p = true) : Ending.returned (.bool p) = .returned (.bool true) := by rw [h]
set_option maxHeartbeats 4000000 in
set_option maxRecDepth 100000 in
theorem copies_walk (a0 : Option Addr) (len0 cap0 : Nat) (bs : List Nat) (w : World) (hrow : RowB w a0 len0 cap0 bs) :
    Calls Try.prog 12 #[.slice a0 len0 cap0] w fun e w' => e = .returned (.bool true) ∧ Below w.heap.size w w' := by
  have h := hrow.bytes
  have hnil := hrow.nil
  have hlt := hrow.lt
  have hl := hrow.len
  subst hl
  clear hrow
  by_cases hbig : 100 < bs.length
  · have hz : (100 : Int) < (bs.length : Int) := by omega
    clear hbig
    go_enter Try.func12, Try.ntmps12
    go_wp2_with (fail)
    refine (awake_any _).mono ?_
    rintro e w2 ⟨rfl, hb2⟩
    go_wp2_with (fail)
    go_ret
    exact ⟨rfl, hb2⟩
  · have hz : ¬ (100 : Int) < (bs.length : Int) := by omega
    go_enter Try.func12, Try.ntmps12
    go_wp2_with (fail)
    refine (awake_any _).mono ?_
    rintro e w2 ⟨rfl, hb2⟩
    have hs2 := hb2.size
    have hown : (w2.alloc (.cells #[] 5)).ownsRow w.heap.size 5 1 (.slice (some ⟨w2.heap.size, 0, none⟩) 0 0) 0 [] := World.ownsRow_made w2 #[] 0 hs2 (by unfold maxLen; omega) rfl
    have hb3 := hb2.alloc hs2 (.cells #[] 5)
    have hs3 : w.heap.size < (w2.alloc (.cells #[] 5)).heap.size := by simp; omega
    have h3 := h.below hb3
    go_wp2_with (at_builtin; refine wpList_append_bytes _ rfl _ _ rfl w.heap.size _ 0 [] rfl hown a0 _ cap0 bs rfl rfl h3 hnil (by omega) hb3.size ?_)
    intro v4 w4 hown4 hg4
    have hb4 : Below w.heap.size w w4 := hb3.grown hg4 hb3.size (fun q hq => (hown.lt q hq).1)
    have hs4 : w.heap.size < w4.heap.size := Nat.lt_of_lt_of_le hs3 hg4.size
    have hown5 : w4.ownsRow w.heap.size 5 1 v4 bs.length (vals bs) := by simpa using hown4
    obtain ⟨g, a, cap, rfl, hgge, hglt, hmb, hnila, hblk⟩ := owned_mb hown5 rfl hlt (.inl hs4)
    obtain ⟨a', cap', hv, hby, _⟩ := owned_bytes hown5 rfl
    simp only [Value.slice.injEq, true_and] at hv
    obtain ⟨rfl, rfl⟩ := hv
    clear hown hown4 hown5 hg4 hb3 h3 hs3
    go_wp2_with (fail)
    refine (newWriter_any _).mono ?_
    rintro e w5 ⟨rfl, hW5, hb5⟩
    obtain ⟨d5, hWd⟩ := hW5.d
    generalize hBB : w4.heap.size = B at *
    go_wp2_with (fail)
    refine (wbytes_any B d5 a cap [] bs (by simp; omega) _ hWd (hby.below (by rw [hBB]; exact hb5)) hnila (fun x hx => ⟨by rw [hblk x hx]; omega, fun e => by have := (hWd.dlt _ e.symm).1; rw [hblk x hx] at this; omega, by rw [hblk x hx]; have := hb5.size; omega⟩)).mono ?_
    rintro e w6 ⟨rfl, hW6, hb6⟩
    have hB6 : Below B w4 w6 := hb5.trans hb6
    have hby6 : Bytes w6 a bs := hby.below (by rw [hBB]; exact hB6)
    have hmb6 : 0 < bs.length → a = some ⟨g, 0, none⟩ ∧ MB w6 g bs.length := fun hp => ⟨(hmb hp).1, by
      obtain ⟨vs, q1, q2⟩ := (hmb hp).2
      exact ⟨vs, (hB6.block g hglt).trans q1, q2⟩⟩
    have hbl6 : Below w.heap.size w w6 := hb4.trans (hB6.mono (by omega))
    have M1 := hidIt (measure_small bs (by omega))
    have M2 := hidIt (take_small bs (by omega))
    have M3 := hidIt (wrapped_lt hlt)
    have M4 : ([] ++ En.enc bs.length ++ bs).length ≤ 200 := by have := (En.enc_len bs.length).2; simp; omega
    have M5 : 0 < ([] ++ En.enc bs.length ++ bs).length := by have := (En.enc_len bs.length).1; simp; omega
    generalize [] ++ En.enc bs.length ++ bs = zs at *
    have hB6lt := hW6.lt
    clear hW5 hWd hb5 hb6 hB6 hby hmb hb4
    go_wp2_with (fail)
    refine (newReader_any a cap bs (by omega) _ hby6 hnila).mono ?_
    rintro e w7 ⟨R, a7, cap7, rfl, hR7, hb7, hRge, hage⟩
    have hW7 := hW6.below hb7
    have hmb7 : 0 < bs.length → a = some ⟨g, 0, none⟩ ∧ MB w7 g bs.length := fun hp => ⟨(hmb6 hp).1, by
      obtain ⟨vs, q1, q2⟩ := (hmb6 hp).2
      exact ⟨vs, (hb7.block g (by omega)).trans q1, q2⟩⟩
    have hbl7 : Below w.heap.size w w7 := below_then hbl6 hb7
    have hs67 := hb7.size
    have hRB : R ≠ g := by omega
    have haB : ∀ x, a7 = some x → x.block ≠ g := fun x hx => by have := hage x hx; omega
    clear hW6 hmb6 hby6 hbl6 hb7
    go_wp2_with (fail)
    go_loopw [6] (fun i wr => ∃ k : Nat, k ≤ bs.length ∧ i = .int .i64 k ∧ Hid (0 < bs.length → MB wr g bs.length) ∧ Hid (w7.grownBy wr (some g))) (fun i _ => bs.length - (intOf i).toNat)
    case atStart => exact ⟨0, by omega, rfl, hidIt (fun hp => (hmb7 hp).2), hidIt (g_refl _ _)⟩
    case round =>
      obtain ⟨k, hk, rfl, hm, hg⟩ := hrel
      by_cases hkl : k < bs.length
      · obtain ⟨rfl, _⟩ := hmb7 (by omega)
        obtain ⟨x, hx, e1, e2⟩ := (hm.out (by omega)).at k hkl
        have hz2 : (k : Int) < (bs.length : Int) := by omega
        go_wp2_with (fail)
        go_roundw
        case rel => exact ⟨k + 1, by omega, by go_num, hidIt (fun hp => (hm.out hp).set (by omega)), hidIt (g_set hg.out)⟩
        case measure => simp [intOf]; omega
      · obtain rfl : k = bs.length := by omega
        have hW8 := hW7.low hg.out hglt
        have hR8 := hR7.low hg.out hRB haB
        have hbl8 : Below w.heap.size w wr := hbl7.trans (below_g hg.out hgge (by omega))
        have hs78 := hg.out.size
        clear hm hg hmb7 hW7 hR7 hbl7
        go_wp2_with (fail)
        obtain ⟨w8, hw8⟩ : ∃ w8, w8 = wr := ⟨_, rfl⟩
        subst hw8
        refine (done_ok B zs (by omega) _ hW8).mono ?_
        rintro e w9 ⟨a9, cap9, rfl, hown9, hb9⟩
        obtain ⟨g2, a9', cap9', hv, hge2, hlt2, hmb9, _, _⟩ := owned_mb hown9 rfl M3.out (.inr M5)
        simp only [Value.slice.injEq, true_and] at hv
        obtain ⟨rfl, rfl⟩ := hv
        obtain ⟨rfl, hm9⟩ := hmb9 M5
        have E9 := hidIt hown9
        clear hown9 hmb9
        go_wp2_with (fail)
        go_loopw [9] (fun i wr => ∃ k : Nat, k ≤ zs.length ∧ i = .int .i64 k ∧ Hid (MB wr g2 zs.length) ∧ Hid (w9.grownBy wr (some g2))) (fun i _ => zs.length - (intOf i).toNat)
        case atStart => exact ⟨0, by omega, rfl, hidIt hm9, hidIt (g_refl _ _)⟩
        case round =>
          obtain ⟨k, hk, rfl, hm, hg⟩ := hrel
          by_cases hkl : k < zs.length
          · obtain ⟨x, hx, e1, e2⟩ := hm.out.at k hkl
            have hz2 : (k : Int) < (zs.length : Int) := by omega
            go_wp2_with (fail)
            go_roundw
            case rel => exact ⟨k + 1, by omega, by go_num, hidIt (hm.out.set (by omega)), hidIt (g_set hg.out)⟩
            case measure => simp [intOf]; omega
          · obtain rfl : k = zs.length := by omega
            obtain ⟨w10, hw10⟩ : ∃ w10, w10 = wr := ⟨_, rfl⟩
            subst hw10
            have hb10 : Below w8.heap.size w8 w10 := hb9.trans (below_g hg.out hge2 hlt2)
            have hW10 := hW8.below hb10
            clear hm hg hm9 hb9 E9
            go_wp2_with (fail)
            refine (done_ok B zs (by omega) _ hW10).mono ?_
            rintro e w11 ⟨a11, cap11, rfl, hown11, hb11⟩
            obtain ⟨a11', cap11', hv, hby11, _⟩ := owned_bytes hown11 rfl
            simp only [Value.slice.injEq, true_and] at hv
            obtain ⟨rfl, rfl⟩ := hv
            have hn11 : a11 = none → cap11 = 0 ∧ zs = [] := fun e => by
              obtain ⟨b, off, h2, _⟩ := hby11 0 M5
              rw [e] at h2; cases h2
            have hb811 : Below w8.heap.size w8 w11 := below_then hb10 hb11
            clear hown11 hb11 hW10 hb10
            go_wp2_with (fail)
            refine (newReader_any a11 cap11 zs (by omega) _ hby11 hn11).mono ?_
            rintro e w12 ⟨R2, a12, cap12, rfl, hR12, hb12, hR2ge, _⟩
            have hr := rBytes_any R2 a12 cap12 zs 0 0 100 (by decide) (by decide) w12 (by omega) hR12 M3.out
            rw [M1.out] at hr
            have hR2lt := hR12.lt
            have hs811 := hb811.size
            have hb812 : Below w8.heap.size w8 w12 := below_then hb811 hb12
            have hR12' : R < w12.heap.size := by have h1 := hR8.lt; have h2 := hb12.size; omega
            clear hb811 hb12 hby11 hn11 hR12
            have hr2 := hidIt hr
            clear hr
            go_wp2_with (fail)
            refine hr2.out.mono ?_
            rintro e w13 ⟨hg13, a13, c13, rfl, hown13, _⟩
            rw [M2.out] at hown13
            obtain ⟨a13', cap13', hv, hby13, hge13⟩ := owned_bytes hown13 rfl
            simp only [Value.slice.injEq, true_and] at hv
            obtain ⟨rfl, rfl⟩ := hv
            have hb813 : Below w8.heap.size w8 w13 := hb812.trans (below_g hg13 (by omega) hR2lt)
            have hR13 := hR8.below hb813
            have hbl13 : Below w.heap.size w w13 := hbl8.trans (hb813.mono hbl8.size)
            have hRw : w.heap.size ≤ R := by omega
            clear hr2 hg13 hown13 hb812 hb813 hR8 hbl8
            go_wp2_with (fail)
            go_loopw [13, 14] (fun f i wr => ∃ k last : Nat, k ≤ bs.length ∧ f = .int .i64 k ∧ i = .int .i64 k ∧ Hid (RD wr R a7 cap7 bs k last 0) ∧ Hid (w13.grownBy wr (some R))) (fun _ i _ => bs.length - (intOf i).toNat)
            case atStart => exact ⟨0, 0, by omega, rfl, rfl, hidIt hR13, hidIt (g_refl _ _)⟩
            case round =>
              obtain ⟨k, last, hk, rfl, rfl, hrd, hg⟩ := hrel
              obtain ⟨w14, hw14⟩ : ∃ w14, w14 = wr := ⟨_, rfl⟩
              subst hw14
              have hRlt := hR13.lt
              have hbl14 : Below w.heap.size w w14 := hbl13.trans (below_g hg.out hRw hRlt)
              have hby14 : Bytes w14 a13 bs := hby13.g hg.out (fun x hx => by have := hge13 x hx; omega)
              have hb0 : Bytes w14 a0 bs := h.below hbl14
              by_cases hkl : k < bs.length
              · obtain ⟨b, off, rfl, hc⟩ := hb0 k hkl
                have hz2 : (k : Int) < (bs.length : Int) := by omega
                have hz3 : (0 : Int) < ((bs.length - k : Nat) : Int) := by omega
                have hat : boolAt bs k = if bs.getD k 0 ≤ 1 then some (bs.getD k 0 == 1) else none := by unfold boolAt; simp [List.getD, hkl]
                obtain ⟨x, hx⟩ : ∃ x, x = bs.getD k 0 := ⟨_, rfl⟩
                rw [← hx] at hc hat
                clear hx hb0
                by_cases hb1 : 1 < x
                · have hz6 : (1 : Int) < (x : Int) := by omega
                  have hfirst : (0 : Int) < (k : Int) + 1 := by omega
                  clear hat
                  go_wp2_with (fail)
                  refine (left_any R a7 cap7 bs k last 0 _ hrd.out).mono ?_
                  rintro e w15 ⟨rfl, m, rfl⟩
                  have hS := hidIt (same_any a13 (some ⟨b, off, none⟩) c13 cap0 bs bs true (by simp) (w14.drewN m) (hby14.drewN m) ((h.below hbl14).drewN m) (by omega))
                  clear hby14 hby13 hR13
                  go_wp2_with (fail)
                  refine hS.out.mono ?_
                  rintro e w15 ⟨rfl, m2, rfl⟩
                  go_wp2_with (fail)
                  all_goals (go_ret; exact ⟨ret_b (by first | rfl | (simp; done) | (simp; omega) | (cases bs <;> simp)), below_drewN hbl14 _⟩)
                · rw [if_pos (by omega)] at hat
                  have hz6 : ¬ (1 : Int) < (x : Int) := by omega
                  have hat2 := hidIt hat
                  clear hat hby14 hby13
                  go_wp2_with (fail)
                  refine (left_any R a7 cap7 bs k last 0 _ hrd.out).mono ?_
                  rintro e w15 ⟨rfl, m, rfl⟩
                  have hcW : (w14.drewN m).cell? ⟨b, off + k, none⟩ = some (.int .u8 x) := hc
                  have hrW := hidIt (hrd.out.drewN (m := m))
                  have hgW := hidIt (g_drewN hg.out m)
                  have hbR : ¬ b = R := by
                    obtain ⟨b', off', e, hc'⟩ := h k hkl
                    simp only [Option.some.injEq, Addr.mk.injEq] at e
                    have := bytes_lt hc'
                    omega
                  clear hc hrd hg hbl14
                  generalize w14.drewN m = W at *
                  go_wp2_with (fail)
                  go_region_held3 (fun w' => w'.cell? ⟨b, off + k, none⟩ = some (.int .u8 x))
                    (first
                      | go_keep
                      | assumption)
                    (first
                      | (go_at_call 39; refine (rBool_any R a7 cap7 bs k last (W.drewN 1) (hrW.out.drewN (m := 1))).mono ?_; rintro e w16 ⟨hg16, hp⟩; rw [hat2.out] at hp; obtain ⟨rfl, hr16⟩ := hp; have hc16 := hg16.cell (a := ⟨b, off + k, none⟩) hcW (fun e => hbR (by cases e; rfl))))
                  have hg17 : w13.grownBy w16 (some R) := g_trans hgW.out (g_trans (g_drewN (g_refl _ _) 1) hg16)
                  obtain rfl | rfl : x = 0 ∨ x = 1 := by omega
                  all_goals
                    go_wp2_with (fail)
                    go_roundw
                    case rel => exact ⟨k + 1, k, by omega, by go_num, by go_num, hidIt hr16, hidIt hg17⟩
                    case measure => simp [intOf]; omega
              · obtain rfl : k = bs.length := by omega
                have hsame := same_any a13 a0 c13 cap0 bs bs true (by simp) w14 hby14 hb0 (by omega)
                have hS := hidIt hsame
                clear hsame hby14 hb0 hby13 hR13
                go_wp2_with (fail)
                refine hS.out.mono ?_
                rintro e w15 ⟨rfl, m, rfl⟩
                go_wp2_with (fail)
                all_goals (go_ret; exact ⟨ret_b (by first | rfl | (simp; done) | (simp; omega) | (cases bs <;> simp)), below_drewN hbl14 m⟩)
end Go.Proofs.Ytebindeachpgnaa
