import Derived.Test.YtfdbdhknamkipaaPv
import Derived.Laws.Strings
namespace Go.Proofs.Ytfdbdhknamkipaa
open Go.RowKit
theorem known_any (k : Int) (w : World) : Calls Try.prog 15 #[.int .i64 k] w fun e w' => e = .returned (.bool (decide (1 ≤ k ∧ k ≤ 7))) ∧ w = w' := by
  by_cases h1 : k ≥ 1
  · by_cases h2 : k ≤ 7
    · go_enter Try.func15, Try.ntmps15
      go_wp2
      go_ret
      exact ⟨by rw [decide_eq_true (p := 1 ≤ k ∧ k ≤ 7) ⟨h1, h2⟩]; rfl, rfl⟩
    · go_enter Try.func15, Try.ntmps15
      go_wp2
      go_ret
      exact ⟨by rw [show decide (k ≤ 7) = false by simpa using h2]; rfl, rfl⟩
  · go_enter Try.func15, Try.ntmps15
    go_wp2
    go_ret
    exact ⟨by rw [show decide (1 ≤ k) = false by simpa using h1]; rfl, rfl⟩
theorem int_beq (a b : Nat) : ((a : Int) == (b : Int)) = (a == b) := by
  by_cases h : a = b
  · subst h; simp
  · have h1 : ¬ ((a : Int) = (b : Int)) := by omega
    rw [beq_eq_false_iff_ne.2 h, beq_eq_false_iff_ne.2 h1]
theorem str_beq' (a b : ByteArray) : (a.toList == b.toList) = decide (a = b) := by
  rw [ByteArray.toList_eq, ByteArray.toList_eq]
  by_cases h : a = b
  · subst h; simp
  · rw [decide_eq_false h, beq_eq_false_iff_ne]
    intro e
    apply h
    cases a; cases b
    congr 1
    exact Array.toList_inj.1 e
theorem encV_ok {p : List Nat × Nat} {bs : List Nat} (h : encV p = .inr bs) : p.2 = 0 ∧ bs = p.1 := by
  unfold encV at h
  split at h
  · cases h
  · rename_i hn; cases h; exact ⟨by simpa using hn, rfl⟩
theorem encV_err {p : List Nat × Nat} {er : Nat} (h : encV p = .inl er) : er ≠ 0 := by
  unfold encV at h
  split at h
  · rename_i hn; cases h; exact hn
  · cases h
set_option maxRecDepth 100000 in
set_option maxHeartbeats 8000000 in
theorem wdistinct_walk (a a' : Option Addr) (len cap len' cap' : Nat) (X Y : Nat → RV) (w : World) (h1 : VR w a len X) (hc1 : len ≤ cap) (hl1 : len ≤ 140737488355328) (h2 : VR w a' len' Y) (hc2 : len' ≤ cap') (hl2 : len' ≤ 140737488355328) :
    Calls Try.prog 8 #[.slice a len cap, .slice a' len' cap'] w fun e w' => e = .returned (.bool true) ∧ Below w.heap.size w w' := by
  have Xh := hidIt h1
  have Yh := hidIt h2
  clear h1 h2
  go_enter Try.func8, Try.ntmps8
  go_wp2_with (fail)
  refine (awake_any _).mono ?_
  rintro e w1 ⟨rfl, hb1⟩
  have H1 := hidIt hb1
  have X1 := hidIt (Xh.out.below hb1)
  have Y1 := hidIt (Yh.out.below hb1)
  clear hb1
  go_wp2_with (fail)
  refine (small_any a len cap X hc1 hl1 _ X1.out).mono ?_
  rintro e w2 ⟨⟨b, rfl, hs⟩, rfl⟩
  have S1 := hidIt hs
  clear hs
  cases b with
  | false =>
    go_wp2_with (fail)
    go_ret
    exact ⟨rfl, H1.out⟩
  | true =>
    go_wp2_with (fail)
    refine (small_any a' len' cap' Y hc2 hl2 _ Y1.out).mono ?_
    rintro e w2 ⟨⟨b, rfl, hs⟩, rfl⟩
    have S2 := hidIt hs
    clear hs
    cases b with
    | false =>
      go_wp2_with (fail)
      go_ret
      exact ⟨rfl, H1.out⟩
    | true =>
      by_cases hll : len = len'
      · subst hll
        have SX := hidIt (S1.out (by simp))
        have SY := hidIt (S2.out (by simp))
        have hl40 : len ≤ 40 := SX.out.1
        clear S1 S2 hl1 hl2
        go_wp2_with (fail)
        go_loopw [5, 6] (fun q i wr => ∃ k : Nat, ∃ v : Bool, k ≤ len ∧ i = .int .i64 k ∧ q = .bool v ∧ Hid (v = eqAll X Y k) ∧ Hid (∀ i, i < k → (X i).kind = (Y i).kind ∧ 1 ≤ (X i).kind ∧ (X i).kind ≤ 7) ∧ Hid (Below w.heap.size w wr) ∧ Hid (Below w1.heap.size w1 wr)) (fun _ i _ => len - (intOf i).toNat)
        case atStart => exact ⟨0, true, by omega, rfl, rfl, rfl, fun i hi => absurd hi (Nat.not_lt_zero _), H1, Below.refl _ _⟩
        case round =>
          obtain ⟨k, v, hk, rfl, rfl, hv, hks, hb, hbw⟩ := hrel
          clear H1
          by_cases hlt : k < len
          · obtain ⟨b1, o1, rfl, r1, -⟩ := (X1.out.below hbw.out).blk k hlt
            obtain ⟨b2, o2, rfl, r2, -⟩ := (Y1.out.below hbw.out).blk k hlt
            have x0 : wr.cell? ⟨b1, o1 + k * 6, none⟩ = some (.int .i64 (X k).kind) := r1 0 _ rfl
            have x1 : wr.cell? ⟨b1, o1 + k * 6 + 1, none⟩ = some (.int .u64 (X k).u) := r1 1 _ rfl
            have x2 : wr.cell? ⟨b1, o1 + k * 6 + 2, none⟩ = some (.int .i64 (X k).n) := r1 2 _ rfl
            have x3 : wr.cell? ⟨b1, o1 + k * 6 + 3, none⟩ = some (.bool (X k).b) := r1 3 _ rfl
            have x4 : wr.cell? ⟨b1, o1 + k * 6 + 4, none⟩ = some (.string (X k).s) := r1 4 _ rfl
            have y0 : wr.cell? ⟨b2, o2 + k * 6, none⟩ = some (.int .i64 (Y k).kind) := r2 0 _ rfl
            have y1 : wr.cell? ⟨b2, o2 + k * 6 + 1, none⟩ = some (.int .u64 (Y k).u) := r2 1 _ rfl
            have y2 : wr.cell? ⟨b2, o2 + k * 6 + 2, none⟩ = some (.int .i64 (Y k).n) := r2 2 _ rfl
            have y3 : wr.cell? ⟨b2, o2 + k * 6 + 3, none⟩ = some (.bool (Y k).b) := r2 3 _ rfl
            have y4 : wr.cell? ⟨b2, o2 + k * 6 + 4, none⟩ = some (.string (Y k).s) := r2 4 _ rfl
            have hnext : Hid (∀ v', v' = (v && eqv (X k) (Y k)) → v' = eqAll X Y (k + 1)) := fun v' h' => by rw [h', hv.out]; rfl
            have hks2 : Hid ((X k).kind = (Y k).kind ∧ 1 ≤ (X k).kind ∧ (X k).kind ≤ 7 → ∀ i, i < k + 1 → (X i).kind = (Y i).kind ∧ 1 ≤ (X i).kind ∧ (X i).kind ≤ 7) := fun h' i hi => by
              by_cases e : i = k
              · subst e; exact h'
              · exact hks.out i (by omega)
            have q1 : Hid ((X k).kind = 1 → eqv (X k) (Y k) = ((X k).u == (Y k).u)) := eqv_1
            have q2 : Hid ((X k).kind = 2 ∨ (X k).kind = 7 → eqv (X k) (Y k) = ((X k).n == (Y k).n)) := eqv_2
            have q3 : Hid ((X k).kind = 3 → eqv (X k) (Y k) = ((X k).b == (Y k).b)) := eqv_3
            have q4 : Hid ((X k).kind = 4 ∨ (X k).kind = 5 ∨ (X k).kind = 6 → eqv (X k) (Y k) = decide ((X k).s = (Y k).s)) := eqv_4
            have t1 : k < cap := by omega
            have t2 : k < cap' := by omega
            clear r1 r2 hv hks
            generalize eqv (X k) (Y k) = ev at hnext q1 q2 q3 q4
            generalize (X k).kind = kx at x0 hks2 q1 q2 q3 q4
            generalize (Y k).kind = ky at y0 hks2
            generalize (X k).u = ux at x1 q1
            generalize (Y k).u = uy at y1 q1
            generalize (X k).n = nx at x2 q2
            generalize (Y k).n = ny at y2 q2
            generalize (X k).b = bx at x3 q3
            generalize (Y k).b = by' at y3 q3
            generalize (X k).s = sx at x4 q4
            generalize (Y k).s = sy at y4 q4
            by_cases hkk : kx = ky
            · subst hkk
              by_cases hkn : 1 ≤ kx ∧ kx ≤ 7
              · have hkn2 := hidIt hkn
                have kn : Hid (∀ m, Calls Try.prog 15 #[.int .i64 kx] (wr.drewN m) fun e w' => e = .returned (.bool true) ∧ wr.drewN m = w') := fun m => by have := known_any kx (wr.drewN m); rw [decide_eq_true hkn] at this; exact this
                clear hkn
                go_wp2_with (fail)
                go_quiet (first | (go_at_call 15; exact Calls.quiet_of_same ((kn.out _).mono fun _ _ z => ⟨z.1, z.2.symm⟩)))
                have hb3 := hidIt (below_drewN hb.out nq)
                have hbw3 := hidIt (below_drewN hbw.out nq)
                obtain ⟨wr3, hw3, X0, X1', X2, X3, X4, Y0, Y1', Y2, Y3, Y4⟩ : ∃ wr3, Hid (wr.drewN nq = wr3) ∧ wr3.cell? ⟨b1, o1 + k * 6, none⟩ = some (.int .i64 kx) ∧ wr3.cell? ⟨b1, o1 + k * 6 + 1, none⟩ = some (.int .u64 ux) ∧ wr3.cell? ⟨b1, o1 + k * 6 + 2, none⟩ = some (.int .i64 nx) ∧ wr3.cell? ⟨b1, o1 + k * 6 + 3, none⟩ = some (.bool bx) ∧ wr3.cell? ⟨b1, o1 + k * 6 + 4, none⟩ = some (.string sx) ∧ wr3.cell? ⟨b2, o2 + k * 6, none⟩ = some (.int .i64 kx) ∧ wr3.cell? ⟨b2, o2 + k * 6 + 1, none⟩ = some (.int .u64 uy) ∧ wr3.cell? ⟨b2, o2 + k * 6 + 2, none⟩ = some (.int .i64 ny) ∧ wr3.cell? ⟨b2, o2 + k * 6 + 3, none⟩ = some (.bool by') ∧ wr3.cell? ⟨b2, o2 + k * 6 + 4, none⟩ = some (.string sy) := ⟨_, rfl, x0, x1, x2, x3, x4, y0, y1, y2, y3, y4⟩
                rw [hw3.out] at hb3 hbw3 ⊢
                clear x0 x1 x2 x3 x4 y0 y1 y2 y3 y4 hb hbw kn hw3
                have hks3 := hidIt (hks2.out ⟨by first | rfl | trivial, hkn2.out⟩)
                by_cases c1 : kx = 1
                · subst c1
                  have qq := hidIt (q1.out rfl)
                  clear q1 q2 q3 q4 hks2
                  cases v with
                  | true =>
                    go_wp2_with (fail)
                    go_quiet (fail)
                    have hb4 := hidIt (below_drewN hb3.out nq)
                    have hbw4 := hidIt (below_drewN hbw3.out nq)
                    clear X0 X1' X2 X3 X4 Y0 Y1' Y2 Y3 Y4 hb3 hbw3
                    go_wp2_with (fail)
                    go_roundw
                    case rel => exact ⟨k + 1, ((ux : Int) == (uy : Int)), by omega, by go_num, rfl, hnext.out _ (by rw [qq.out]; first | rfl | (rw [Bool.true_and]; exact int_beq _ _) | (rw [Bool.true_and]; exact str_beq' _ _) | simp), hks3.out, hb4, hbw4⟩
                    case measure => simp [intOf]; omega
                  | false =>
                    go_wp2_with (fail)
                    go_quiet (fail)
                    have hb4 := hidIt (below_drewN hb3.out nq)
                    have hbw4 := hidIt (below_drewN hbw3.out nq)
                    clear X0 X1' X2 X3 X4 Y0 Y1' Y2 Y3 Y4 hb3 hbw3
                    go_wp2_with (fail)
                    go_roundw
                    case rel => exact ⟨k + 1, false, by omega, by go_num, rfl, hnext.out _ (by rw [qq.out]; first | rfl | (rw [Bool.true_and]; exact int_beq _ _) | (rw [Bool.true_and]; exact str_beq' _ _) | simp), hks3.out, hb4, hbw4⟩
                    case measure => simp [intOf]; omega
                by_cases c2 : kx = 2
                · subst c2
                  have qq := hidIt (q2.out (Or.inl rfl))
                  clear q1 q2 q3 q4 hks2
                  cases v with
                  | true =>
                    go_wp2_with (fail)
                    go_quiet (fail)
                    have hb4 := hidIt (below_drewN hb3.out nq)
                    have hbw4 := hidIt (below_drewN hbw3.out nq)
                    clear X0 X1' X2 X3 X4 Y0 Y1' Y2 Y3 Y4 hb3 hbw3
                    go_wp2_with (fail)
                    go_roundw
                    case rel => exact ⟨k + 1, (nx == ny), by omega, by go_num, rfl, hnext.out _ (by rw [qq.out]; first | rfl | (rw [Bool.true_and]; exact int_beq _ _) | (rw [Bool.true_and]; exact str_beq' _ _) | simp), hks3.out, hb4, hbw4⟩
                    case measure => simp [intOf]; omega
                  | false =>
                    go_wp2_with (fail)
                    go_quiet (fail)
                    have hb4 := hidIt (below_drewN hb3.out nq)
                    have hbw4 := hidIt (below_drewN hbw3.out nq)
                    clear X0 X1' X2 X3 X4 Y0 Y1' Y2 Y3 Y4 hb3 hbw3
                    go_wp2_with (fail)
                    go_roundw
                    case rel => exact ⟨k + 1, false, by omega, by go_num, rfl, hnext.out _ (by rw [qq.out]; first | rfl | (rw [Bool.true_and]; exact int_beq _ _) | (rw [Bool.true_and]; exact str_beq' _ _) | simp), hks3.out, hb4, hbw4⟩
                    case measure => simp [intOf]; omega
                by_cases c7 : kx = 7
                · subst c7
                  have qq := hidIt (q2.out (Or.inr rfl))
                  clear q1 q2 q3 q4 hks2
                  cases v with
                  | true =>
                    go_wp2_with (fail)
                    go_quiet (fail)
                    have hb4 := hidIt (below_drewN hb3.out nq)
                    have hbw4 := hidIt (below_drewN hbw3.out nq)
                    clear X0 X1' X2 X3 X4 Y0 Y1' Y2 Y3 Y4 hb3 hbw3
                    go_wp2_with (fail)
                    go_roundw
                    case rel => exact ⟨k + 1, (nx == ny), by omega, by go_num, rfl, hnext.out _ (by rw [qq.out]; first | rfl | (rw [Bool.true_and]; exact int_beq _ _) | (rw [Bool.true_and]; exact str_beq' _ _) | simp), hks3.out, hb4, hbw4⟩
                    case measure => simp [intOf]; omega
                  | false =>
                    go_wp2_with (fail)
                    go_quiet (fail)
                    have hb4 := hidIt (below_drewN hb3.out nq)
                    have hbw4 := hidIt (below_drewN hbw3.out nq)
                    clear X0 X1' X2 X3 X4 Y0 Y1' Y2 Y3 Y4 hb3 hbw3
                    go_wp2_with (fail)
                    go_roundw
                    case rel => exact ⟨k + 1, false, by omega, by go_num, rfl, hnext.out _ (by rw [qq.out]; first | rfl | (rw [Bool.true_and]; exact int_beq _ _) | (rw [Bool.true_and]; exact str_beq' _ _) | simp), hks3.out, hb4, hbw4⟩
                    case measure => simp [intOf]; omega
                by_cases c3 : kx = 3
                · subst c3
                  have qq := hidIt (q3.out rfl)
                  clear q1 q2 q3 q4 hks2
                  cases v with
                  | true =>
                    go_wp2_with (fail)
                    go_quiet (fail)
                    have hb4 := hidIt (below_drewN hb3.out nq)
                    have hbw4 := hidIt (below_drewN hbw3.out nq)
                    clear X0 X1' X2 X3 X4 Y0 Y1' Y2 Y3 Y4 hb3 hbw3
                    go_wp2_with (fail)
                    go_roundw
                    case rel => exact ⟨k + 1, (bx == by'), by omega, by go_num, rfl, hnext.out _ (by rw [qq.out]; first | rfl | (rw [Bool.true_and]; exact int_beq _ _) | (rw [Bool.true_and]; exact str_beq' _ _) | simp), hks3.out, hb4, hbw4⟩
                    case measure => simp [intOf]; omega
                  | false =>
                    go_wp2_with (fail)
                    go_quiet (fail)
                    have hb4 := hidIt (below_drewN hb3.out nq)
                    have hbw4 := hidIt (below_drewN hbw3.out nq)
                    clear X0 X1' X2 X3 X4 Y0 Y1' Y2 Y3 Y4 hb3 hbw3
                    go_wp2_with (fail)
                    go_roundw
                    case rel => exact ⟨k + 1, false, by omega, by go_num, rfl, hnext.out _ (by rw [qq.out]; first | rfl | (rw [Bool.true_and]; exact int_beq _ _) | (rw [Bool.true_and]; exact str_beq' _ _) | simp), hks3.out, hb4, hbw4⟩
                    case measure => simp [intOf]; omega
                · have c4 := hidIt (show kx = 4 ∨ kx = 5 ∨ kx = 6 from by have := hkn2.out; omega)
                  have qq := hidIt (q4.out c4.out)
                  clear q1 q2 q3 q4 hks2
                  cases v with
                  | true =>
                    go_wp2_with (fail)
                    go_quiet (fail)
                    have hb4 := hidIt (below_drewN hb3.out nq)
                    have hbw4 := hidIt (below_drewN hbw3.out nq)
                    clear X0 X1' X2 X3 X4 Y0 Y1' Y2 Y3 Y4 hb3 hbw3
                    go_wp2_with (fail)
                    go_roundw
                    case rel => exact ⟨k + 1, (sx.toList == sy.toList), by omega, by go_num, rfl, hnext.out _ (by rw [qq.out]; first | rfl | (rw [Bool.true_and]; exact int_beq _ _) | (rw [Bool.true_and]; exact str_beq' _ _) | simp), hks3.out, hb4, hbw4⟩
                    case measure => simp [intOf]; omega
                  | false =>
                    go_wp2_with (fail)
                    go_quiet (fail)
                    have hb4 := hidIt (below_drewN hb3.out nq)
                    have hbw4 := hidIt (below_drewN hbw3.out nq)
                    clear X0 X1' X2 X3 X4 Y0 Y1' Y2 Y3 Y4 hb3 hbw3
                    go_wp2_with (fail)
                    go_roundw
                    case rel => exact ⟨k + 1, false, by omega, by go_num, rfl, hnext.out _ (by rw [qq.out]; first | rfl | (rw [Bool.true_and]; exact int_beq _ _) | (rw [Bool.true_and]; exact str_beq' _ _) | simp), hks3.out, hb4, hbw4⟩
                    case measure => simp [intOf]; omega
              · have kn : Hid (∀ m, Calls Try.prog 15 #[.int .i64 kx] (wr.drewN m) fun e w' => e = .returned (.bool false) ∧ wr.drewN m = w') := fun m => by have := known_any kx (wr.drewN m); rw [decide_eq_false hkn] at this; exact this
                clear hkn
                go_wp2_with (fail)
                go_quiet (first | (go_at_call 15; exact Calls.quiet_of_same ((kn.out _).mono fun _ _ z => ⟨z.1, z.2.symm⟩)))
                have hb3 := hidIt (below_drewN hb.out nq)
                go_wp2_with (fail)
                go_ret
                exact ⟨rfl, hb3.out⟩
            · have hkk2 : (kx != ky) = true := by simpa using hkk
              go_wp2_with (fail)
              go_quiet (fail)
              have hb3 := hidIt (below_drewN hb.out nq)
              go_wp2_with (fail)
              go_ret
              exact ⟨rfl, hb3.out⟩
          · obtain rfl : k = len := by omega
            have X3 := hidIt (X1.out.below hbw.out)
            have Y3 := hidIt (Y1.out.below hbw.out)
            clear hbw
            go_wp2_with (fail)
            refine (encoded_any a k cap X hc1 SX.out _ X3.out).mono ?_
            rintro e w4 ⟨hb4, he4⟩
            have H4 := hidIt (below_then hb.out hb4)
            have Y4 := hidIt (Y3.out.below hb4)
            clear hb4 hb X3 Y3
            cases hp1 : encV (putAll X k) with
            | inl er =>
              rw [hp1] at he4
              obtain rfl := he4
              have er0 := encV_err hp1
              have z1 : ((er : Int) != 0) = true := by simpa using er0
              clear hp1 er0
              go_wp2_with (fail)
              refine (encoded_any a' k cap' Y hc2 SY.out _ Y4.out).mono ?_
              rintro e w5 ⟨hb5, he5⟩
              have H5 := hidIt (below_then H4.out hb5)
              clear hb5
              cases hp2 : encV (putAll Y k) with
              | inl er2 =>
                rw [hp2] at he5
                obtain rfl := he5
                clear hp2
                go_wp2_with (fail)
                go_ret
                exact ⟨rfl, H5.out⟩
              | inr bs =>
                rw [hp2] at he5
                obtain ⟨a5, c5, rfl, -⟩ := he5
                clear hp2
                go_wp2_with (fail)
                go_ret
                exact ⟨rfl, H5.out⟩
            | inr xs =>
              rw [hp1] at he4
              obtain ⟨a4, c4, rfl, ho4⟩ := he4
              obtain ⟨a4', c4', hv4, hB4, -⟩ := owned_bytes ho4 rfl
              cases hv4
              have BA := hidIt hB4
              have P1 := hidIt (encV_ok hp1)
              clear hp1 ho4 hB4
              go_wp2_with (fail)
              refine (encoded_any a' k cap' Y hc2 SY.out _ Y4.out).mono ?_
              rintro e w5 ⟨hb5, he5⟩
              have H5 := hidIt (below_then H4.out hb5)
              have BA5 := hidIt (BA.out.below hb5)
              clear hb5 BA
              cases hp2 : encV (putAll Y k) with
              | inl er =>
                rw [hp2] at he5
                obtain rfl := he5
                have er0 := encV_err hp2
                have z1 : ((er : Int) != 0) = true := by simpa using er0
                clear hp2 er0
                go_wp2_with (fail)
                go_ret
                exact ⟨rfl, H5.out⟩
              | inr bs =>
                rw [hp2] at he5
                obtain ⟨a5, c5, rfl, ho5⟩ := he5
                obtain ⟨a5', c5', hv5, hB5, -⟩ := owned_bytes ho5 rfl
                cases hv5
                have BB := hidIt hB5
                have P2 := hidIt (encV_ok hp2)
                have hdist := hidIt (distinct Xh.out.ok Yh.out.ok hks.out P1.out.1 P2.out.1)
                have hvv : Hid (decide (xs = bs) = v) := by show _ = _; rw [P1.out.2, P2.out.2, hdist.out]; exact hv.out.symm
                have hl4 : xs.length ≤ 9223372036854775807 := by rw [P1.out.2]; have := putAll_len SX.out.2 k (Nat.le_refl _); omega
                clear hp2 ho5 hB5 hdist P1 P2 hv hks
                go_wp2_with (fail)
                refine (same_any a4 a5 c4 c5 xs bs v hvv.out _ BA5.out BB.out hl4).mono ?_
                rintro e w6 ⟨rfl, m, rfl⟩
                have H6 := hidIt (below_drewN H5.out m)
                go_wp2_with (fail)
                go_ret
                exact ⟨by simp, H6.out⟩
      · have hll2 : ¬ (len : Int) = (len' : Int) := by omega
        have hll3 : ((len : Int) != (len' : Int)) = true := by simp; omega
        clear hll S1 S2
        go_wp2_with (fail)
        go_ret
        exact ⟨rfl, H1.out⟩
end Go.Proofs.Ytfdbdhknamkipaa
