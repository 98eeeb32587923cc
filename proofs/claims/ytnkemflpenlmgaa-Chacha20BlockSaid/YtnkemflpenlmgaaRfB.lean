import Derived.Test.YtnkemflpenlmgaaRfT
import Derived.Test.YtnkemflpenlmgaaPerm
namespace Go.Proofs.Ytnkemflpenlmgaa
open Go.RowKit
set_option maxRecDepth 100000 in
theorem refblock_err (key nonce : ByteArray) (c : Nat) (h : ¬ (key.size = 32 ∧ nonce.size = 12)) (w : World) :
    Calls Try.prog 16 #[.string key, .string nonce, .int .u32 c] w fun e w' => e = .returned (.tuple #[.slice none 0 0, .int .i64 1]) ∧ w = w' := by
  by_cases hk : key.size = 32
  · have hn : ((nonce.size : Int) != 12) = true := by simp; omega
    have hn2 : ¬ (nonce.size : Int) = 12 := by omega
    have hk2 : ((key.size : Int) != 32) = false := by simp; omega
    clear h
    go_enter Try.func16, Try.ntmps16
    go_wp2
    go_ret2
    exact ⟨rfl, rfl⟩
  · have hk2 : ((key.size : Int) != 32) = true := by simp; omega
    have hk3 : ¬ (key.size : Int) = 32 := by omega
    clear h hk
    go_enter Try.func16, Try.ntmps16
    go_wp2
    go_ret2
    exact ⟨rfl, rfl⟩
set_option maxRecDepth 100000 in
set_option maxHeartbeats 2000000 in
theorem refblock_ok (key nonce : ByteArray) (c : Nat) (hk : key.size = 32) (hn : nonce.size = 12) (hc : c < 4294967296) (w : World) :
    Calls Try.prog 16 #[.string key, .string nonce, .int .u32 c] w fun e w' => SlB e w' (Cc.block (Cc.init (ofStr key) (ofStr nonce) c)) ∧ Below w.heap.size w w' := by
  obtain ⟨ks, hks⟩ : ∃ ks, Hid ((fun k => (ofStr key).getD k 0) = ks) := ⟨_, rfl⟩
  obtain ⟨ns, hns⟩ : ∃ ns, Hid ((fun k => (ofStr nonce).getD k 0) = ns) := ⟨_, rfl⟩
  have hwk : Hid (∀ i : Nat, i < 8 → ∀ W, Calls Try.prog 26 #[.string key, .int .i64 i] W fun e w' => e = .returned (.int .u32 (Cc.word ks i)) ∧ Below W.heap.size W w') := fun i hi W => by
    have := word_any key i (by omega) (by omega) W
    rwa [hks.out] at this
  have hwn : Hid (∀ i : Nat, i < 3 → ∀ W, Calls Try.prog 26 #[.string nonce, .int .i64 i] W fun e w' => e = .returned (.int .u32 (Cc.word ns i)) ∧ Below W.heap.size W w') := fun i hi W => by
    have := word_any nonce i (by omega) (by omega) W
    rwa [hns.out] at this
  obtain ⟨X, hX⟩ : ∃ X, Hid (Cc.init (ofStr key) (ofStr nonce) c = X) := ⟨_, rfl⟩
  have hXo : Hid (Cc.Ok X) := by show Cc.Ok X; rw [← hX.out]; exact Cc.init_ok (ofStr_getD_lt key) (ofStr_getD_lt nonce) hc
  have hXf : Hid (∀ i, i < 16 → rwF (fun n => if n = 12 then c else rwF c4F ks 4 8 n) ns 13 3 i = X.getD i 0) := fun i hi => by rw [← hX.out, ← hks.out, ← hns.out]; exact rw_fin _ _ _ _ hi
  obtain ⟨zs, hzs⟩ : ∃ zs, Hid (Cc.block X = zs) := ⟨_, rfl⟩
  rw [hX.out, hzs.out]
  have hk1 : ((key.size : Int) != 32) = false := by simp; omega
  have hn1 : ((nonce.size : Int) != 12) = false := by simp; omega
  have hk2 : (key.size : Int) = 32 := by omega
  have hn2 : (nonce.size : Int) = 12 := by omega
  have hz := zeroW
  have hB0 := hidIt (Blk.new w 40 (rowA .u32 (fun _ => 0) 16 0))
  clear hk hn hc hks hns hX
  go_enter Try.func16, Try.ntmps16
  go_wp2_with (refine wpList_store_row rfl 40 _ _ rfl w.heap.size four rfl rfl 40 (rowA .u32 (fun _ => 0) 16 0) hB0.out four_infoW ?c1 four_one ?_)
  case c1 => rw [rowA_size, four_size]
  have R0 := hidIt ((rw_start w).congr (G := rwF c4F ks 4 0) (fun i _ => (rwF_zero _ _ _ i).symm))
  clear hB0
  generalize (w.alloc (.cells (rowA .u32 (fun _ => 0) 16 0) 40)).setRow w.heap.size four = w1 at *
  go_loopw [9] (fun i wr => ∃ k : Nat, k ≤ 8 ∧ i = .int .i64 k ∧ Hid (RwR w (rwF c4F ks 4 k) wr)) (fun i _ => 8 - (intOf i).toNat)
  case atStart => exact ⟨0, by omega, rfl, R0⟩
  case round =>
    clear R0
    obtain ⟨k, hk, rfl, R⟩ := hrel
    by_cases hlt : k < 8
    · have t1 : (k : Int) < 8 := by omega
      obtain ⟨q, hq⟩ : ∃ q, Hid (4 + k = q) := ⟨_, rfl⟩
      have e1 : (4 : Int) + (k : Int) = (q : Int) := by have := hq.out; omega
      have e2 : IntKind.i64.wrap (q : Int) = (q : Int) := IntWalk.i64_in _ (by have := hq.out; omega)
      have e3 : (q : Int) < 16 := by have := hq.out; omega
      have e4 : (0 : Int) ≤ (q : Int) := by omega
      go_wp2_with (fail)
      refine (hwk.out k hlt _).mono ?_
      rintro e w2 ⟨rfl, hb2⟩
      have R2 := hidIt (R.out.after hb2)
      have d := R2.out.row.cell q
      have fz := R2.out.row.frozen q
      rw [rowA_all _ _ _ _ (by have := hq.out; omega)] at d
      obtain ⟨v, hv⟩ : ∃ v, Hid (v = Cc.word ks k) := ⟨_, rfl⟩
      rw [← hv.out]
      clear R hb2
      go_wp2_with (fail)
      go_roundw
      case rel => exact ⟨k + 1, by omega, by go_num, by rw [← hq.out]; exact R2.out.step hv.out⟩
      case measure => simp [intOf]; omega
    · have R' : Hid (RwR w (rwF c4F ks 4 8) wr) := (show k = 8 by omega) ▸ R
      have t1 : ¬ (k : Int) < 8 := by omega
      clear R
      have R := R'
      clear R'
      have d := R.out.row.cell 12
      have fz := R.out.row.frozen 12
      rw [rowA_all _ _ _ _ (by omega)] at d
      clear hlt hk
      go_wp2_with (fail)
      have R1 := hidIt ((R.out.set 12 c).congr (G := rwF (fun n => if n = 12 then c else rwF c4F ks 4 8 n) ns 13 0) (fun i _ => by rw [rwF_zero]))
      clear R d fz
      generalize wr.setCell ⟨w.heap.size, 12, none⟩ (.int .u32 c) = w3 at *
      go_loopw [10] (fun i wr => ∃ k : Nat, k ≤ 3 ∧ i = .int .i64 k ∧ Hid (RwR w (rwF (fun n => if n = 12 then c else rwF c4F ks 4 8 n) ns 13 k) wr)) (fun i _ => 3 - (intOf i).toNat)
      case atStart => exact ⟨0, by omega, rfl, R1⟩
      case round =>
        clear R1
        obtain ⟨k2, hk, rfl, R⟩ := hrel
        by_cases hlt : k2 < 3
        · have t1 : (k2 : Int) < 3 := by omega
          obtain ⟨q, hq⟩ : ∃ q, Hid (13 + k2 = q) := ⟨_, rfl⟩
          have e1 : (13 : Int) + (k2 : Int) = (q : Int) := by have := hq.out; omega
          have e2 : IntKind.i64.wrap (q : Int) = (q : Int) := IntWalk.i64_in _ (by have := hq.out; omega)
          have e3 : (q : Int) < 16 := by have := hq.out; omega
          have e4 : (0 : Int) ≤ (q : Int) := by omega
          go_wp2_with (fail)
          refine (hwn.out k2 hlt _).mono ?_
          rintro e w2 ⟨rfl, hb2⟩
          have R2 := hidIt (R.out.after hb2)
          have d := R2.out.row.cell q
          have fz := R2.out.row.frozen q
          rw [rowA_all _ _ _ _ (by have := hq.out; omega)] at d
          obtain ⟨v, hv⟩ : ∃ v, Hid (v = Cc.word ns k2) := ⟨_, rfl⟩
          rw [← hv.out]
          clear R hb2
          go_wp2_with (fail)
          go_roundw
          case rel => exact ⟨k2 + 1, by omega, by go_num, by rw [← hq.out]; exact R2.out.step hv.out⟩
          case measure => simp [intOf]; omega
        · have R3 : Hid (RwR w (fun i => X.getD i 0) wr) := ((show k2 = 3 by omega) ▸ R.out).congr hXf.out
          have t1 : ¬ (k2 : Int) < 3 := by omega
          clear R hlt hk hXf hwk hwn
          obtain ⟨fx, hfx⟩ : ∃ fx : Nat → Nat, Hid ((fun i => X.getD i 0) = fx) := ⟨_, rfl⟩
          rw [hfx.out] at R3
          have hz2 := zeroTabW
          have hT0 := hidIt (Blk.new wr 46 Z32W)
          have hM0 := hidIt (rx_mid R3.out)
          have hN0 := hidIt (rx_new wr)
          have R4 := hidIt (rx_start R3.out hfx.out)
          clear R3
          go_wp2_with (first | (refine wpList_store_row rfl 46 _ _ rfl wr.heap.size tabW rfl rfl 46 Z32W hT0.out infoTabW rfl tabWOne ?_) | (refine wpList_load_row rfl 40 _ rfl w.heap.size rfl 40 (rowA .u32 fx 16 16) (0, 0) _ hM0.out Try.underlying40 rfl infoW ?_) | (refine wpList_store_row rfl 40 _ _ rfl (wr.heap.size + 1) (rowA .u32 fx 16 16) rfl rfl 40 (rowA .u32 (fun _ => 0) 16 0) hN0.out infoW ?c2 (rowA_one _ _ _ _) ?_))
          case c2 => rw [rowA_size, rowA_size]
          clear hT0 hM0 hN0 hz hz2
          generalize ((((wr.alloc (.cells Z32W 46)).setRow wr.heap.size tabW).alloc (.cells (rowA .u32 (fun _ => 0) 16 0) 40)).setRow (wr.heap.size + 1) (rowA .u32 fx 16 16)) = w4 at *
          generalize wr.heap.size = B at *
          go_loopw [13, 15] (fun i _ wr => ∃ r : Nat, r ≤ 10 ∧ i = .int .i64 r ∧ Hid (RxR w B fx (Cc.rn X r) wr)) (fun i _ _ => 10 - (intOf i).toNat)
          case atStart => exact ⟨0, by omega, rfl, R4⟩
          case round =>
            clear R4
            obtain ⟨r, hr, rfl, R⟩ := hrel
            by_cases hlt : r < 10
            · have t3 : (r : Int) < 10 := by omega
              go_wp2_with (refine wpList_load_row rfl 46 _ rfl B rfl 46 tabW (0, 0) _ R.out.tab Try.underlying46 rfl infoTabW ?_)
              go_loopw [65, 15] (fun i _ wr => ∃ t : Nat, t ≤ 8 ∧ i = .int .i64 t ∧ Hid (RxR w B fx (Cc.qn (Cc.rn X r) t) wr)) (fun i _ _ => 8 - (intOf i).toNat)
              case atStart => exact ⟨0, by omega, rfl, R⟩
              case round =>
                clear R
                obtain ⟨t, ht, rfl, R⟩ := hrel
                by_cases hlt2 : t < 8
                · obtain ⟨i, j, k, l, hT, ⟨bi, bj, bk, bl⟩, ⟨nij, nik, nil, njk, njl, nkl⟩, hix⟩ := idxTabW t hlt2
                  have t4 : (t : Int) < 8 := by omega
                  obtain ⟨S, hS⟩ : ∃ S, Hid (Cc.qn (Cc.rn X r) t = S) := ⟨_, rfl⟩
                  rw [hS.out] at R
                  have hSo : Cc.Ok S := by rw [← hS.out]; exact Cc.qn_ok (Cc.rn_ok hXo.out r) t
                  obtain ⟨a, ha⟩ : ∃ a, Hid (S.getD i 0 = a) := ⟨_, rfl⟩
                  obtain ⟨b, hb⟩ : ∃ b, Hid (S.getD j 0 = b) := ⟨_, rfl⟩
                  obtain ⟨c', hc⟩ : ∃ c', Hid (S.getD k 0 = c') := ⟨_, rfl⟩
                  obtain ⟨d, hd⟩ : ∃ d, Hid (S.getD l 0 = d) := ⟨_, rfl⟩
                  have hQ : (⟨a, b, c', d⟩ : Cc.Q).Ok := ⟨by rw [← ha.out]; exact hSo.lt i, by rw [← hb.out]; exact hSo.lt j, by rw [← hc.out]; exact hSo.lt k, by rw [← hd.out]; exact hSo.lt l⟩
                  obtain ⟨a2, b2, c2, d2, hq⟩ : ∃ a2 b2 c2 d2, Hid (Cc.qr ⟨a, b, c', d⟩ = ⟨a2, b2, c2, d2⟩) := ⟨_, _, _, _, rfl⟩
                  have hcall := fun W => refquarter_any ⟨a, b, c', d⟩ hQ W
                  rw [hq.out] at hcall
                  simp only at hcall
                  replace hcall := hidIt hcall
                  go_wp2_with (fail)
                  have hgl : B + 1 < wr.heap.size := R.out.x.lt
                  have q0 : (i : Int) < 16 := by omega
                  have q1 : (j : Int) < 16 := by omega
                  have q2 : (k : Int) < 16 := by omega
                  have q3 : (l : Int) < 16 := by omega
                  obtain ⟨w5, hw5, R5, f0, f1, f2, f3⟩ : ∃ w5, Hid (wr.alloc (.cells #[.int .i64 i, .int .i64 j, .int .i64 k, .int .i64 l] 45) = w5) ∧ Hid (RxR w B fx S w5) ∧
                      w5.cell? ⟨wr.heap.size, 0, none⟩ = some (.int .i64 i) ∧ w5.cell? ⟨wr.heap.size, 1, none⟩ = some (.int .i64 j) ∧ w5.cell? ⟨wr.heap.size, 2, none⟩ = some (.int .i64 k) ∧ w5.cell? ⟨wr.heap.size, 3, none⟩ = some (.int .i64 l) := by
                    have hN := Blk.new wr 45 #[.int .i64 i, .int .i64 j, .int .i64 k, .int .i64 l]
                    exact ⟨_, rfl, R.out.alloc _, hN.cell 0, hN.cell 1, hN.cell 2, hN.cell 3⟩
                  rw [hw5.out]
                  have e0 : w5.cell? ⟨B + 1, i, none⟩ = some (.int .u32 a) := by rw [R5.out.x.cell, rowA_all _ _ _ _ bi, ha.out]
                  have e1 : w5.cell? ⟨B + 1, j, none⟩ = some (.int .u32 b) := by rw [R5.out.x.cell, rowA_all _ _ _ _ bj, hb.out]
                  have e2 : w5.cell? ⟨B + 1, k, none⟩ = some (.int .u32 c') := by rw [R5.out.x.cell, rowA_all _ _ _ _ bk, hc.out]
                  have e3 : w5.cell? ⟨B + 1, l, none⟩ = some (.int .u32 d) := by rw [R5.out.x.cell, rowA_all _ _ _ _ bl, hd.out]
                  have z0 := R5.out.x.frozen i
                  have z1 := R5.out.x.frozen j
                  have z2 := R5.out.x.frozen k
                  have z3 := R5.out.x.frozen l
                  have ne : ¬ wr.heap.size = B + 1 := by omega
                  have ne2 : ¬ B + 1 = wr.heap.size := by omega
                  have m0 : ¬ i = j := nij
                  have m1 : ¬ j = k := njk
                  have m2 : ¬ k = l := nkl
                  have m3 : ¬ i = k := nik
                  have m4 : ¬ i = l := nil
                  have m5 : ¬ j = l := njl
                  have m6 : ¬ j = i := fun e => nij e.symm
                  have m7 : ¬ k = j := fun e => njk e.symm
                  have m8 : ¬ l = k := fun e => nkl e.symm
                  have m9 : ¬ k = i := fun e => nik e.symm
                  have m10 : ¬ l = i := fun e => nil e.symm
                  have m11 : ¬ l = j := fun e => njl e.symm
                  have hTh := hidIt hT
                  have hSoh := hidIt hSo
                  clear nij nik nil njk njl nkl hT hSo hix R hQ hw5 hlt hlt2 hr ht
                  generalize wr.heap.size = g at *
                  -- BEGIN21
                  refine wp_region_held_drew (S := (fun w' => w'.cell? ⟨g, 0, none⟩ = some (.int .i64 (i : Int)) ∧ w'.cell? ⟨g, 1, none⟩ = some (.int .i64 (j : Int)) ∧ w'.cell? ⟨g, 2, none⟩ = some (.int .i64 (k : Int)) ∧ w'.cell? ⟨g, 3, none⟩ = some (.int .i64 (l : Int)))) (by kernel_rfl) ⟨f0, f1, f2, f3⟩ (fun hHeld => ?_)
                  refine wpAnyH_take_at (i := 0) (some 69) (.pointer (some ⟨g, 0, none⟩)) rfl rfl (by kernel_rfl) (by kernel_rfl) (by kernel_rfl) (fun _ _ _ h => h) (Or.inl ⟨by rfl, ?_⟩) hHeld ?_
                  · (intro w hSw; (try dsimp only at hSw); go_simp)
                  simp only [Act.put, List.setIfInBounds_toArray, List.set_cons_zero, List.set_cons_succ]
                  refine wpAnyH_take_at (i := 2) (some 71) (.pointer (some ⟨g, 1, none⟩)) rfl rfl (by kernel_rfl) (by kernel_rfl) (by kernel_rfl) (fun _ _ _ h => h) (Or.inl ⟨by rfl, ?_⟩) hHeld ?_
                  · (intro w hSw; (try dsimp only at hSw); go_simp)
                  simp only [Act.put, List.setIfInBounds_toArray, List.set_cons_zero, List.set_cons_succ]
                  refine wpAnyH_take_at (i := 4) (some 73) (.pointer (some ⟨g, 2, none⟩)) rfl rfl (by kernel_rfl) (by kernel_rfl) (by kernel_rfl) (fun _ _ _ h => h) (Or.inl ⟨by rfl, ?_⟩) hHeld ?_
                  · (intro w hSw; (try dsimp only at hSw); go_simp)
                  simp only [Act.put, List.setIfInBounds_toArray, List.set_cons_zero, List.set_cons_succ]
                  refine wpAnyH_take_at (i := 6) (some 75) (.pointer (some ⟨g, 3, none⟩)) rfl rfl (by kernel_rfl) (by kernel_rfl) (by kernel_rfl) (fun _ _ _ h => h) (Or.inl ⟨by rfl, ?_⟩) hHeld ?_
                  · (intro w hSw; (try dsimp only at hSw); go_simp)
                  simp only [Act.put, List.setIfInBounds_toArray, List.set_cons_zero, List.set_cons_succ]
                  refine wpAnyH_take_at (i := 8) (some 77) (.pointer (some ⟨g, 0, none⟩)) rfl rfl (by kernel_rfl) (by kernel_rfl) (by kernel_rfl) (fun _ _ _ h => h) (Or.inl ⟨by rfl, ?_⟩) hHeld ?_
                  · (intro w hSw; (try dsimp only at hSw); go_simp)
                  simp only [Act.put, List.setIfInBounds_toArray, List.set_cons_zero, List.set_cons_succ]
                  refine wpAnyH_take_at (i := 12) (some 81) (.pointer (some ⟨g, 1, none⟩)) rfl rfl (by kernel_rfl) (by kernel_rfl) (by kernel_rfl) (fun _ _ _ h => h) (Or.inl ⟨by rfl, ?_⟩) hHeld ?_
                  · (intro w hSw; (try dsimp only at hSw); go_simp)
                  simp only [Act.put, List.setIfInBounds_toArray, List.set_cons_zero, List.set_cons_succ]
                  refine wpAnyH_take_at (i := 16) (some 85) (.pointer (some ⟨g, 2, none⟩)) rfl rfl (by kernel_rfl) (by kernel_rfl) (by kernel_rfl) (fun _ _ _ h => h) (Or.inl ⟨by rfl, ?_⟩) hHeld ?_
                  · (intro w hSw; (try dsimp only at hSw); go_simp)
                  simp only [Act.put, List.setIfInBounds_toArray, List.set_cons_zero, List.set_cons_succ]
                  refine wpAnyH_take_at (i := 20) (some 89) (.pointer (some ⟨g, 3, none⟩)) rfl rfl (by kernel_rfl) (by kernel_rfl) (by kernel_rfl) (fun _ _ _ h => h) (Or.inl ⟨by rfl, ?_⟩) hHeld ?_
                  · (intro w hSw; (try dsimp only at hSw); go_simp)
                  simp only [Act.put, List.setIfInBounds_toArray, List.set_cons_zero, List.set_cons_succ]
                  refine wpAnyH_take_at (i := 1) (some 70) (.int .i64 (i : Int)) rfl rfl (by kernel_rfl) (by kernel_rfl) (by kernel_rfl) (fun _ _ _ h => h) (Or.inl ⟨by rfl, ?_⟩) hHeld ?_
                  · (intro w hSw; (try dsimp only at hSw); go_simp)
                  simp only [Act.put, List.setIfInBounds_toArray, List.set_cons_zero, List.set_cons_succ]
                  refine wpAnyH_take_at (i := 3) (some 72) (.int .i64 (j : Int)) rfl rfl (by kernel_rfl) (by kernel_rfl) (by kernel_rfl) (fun _ _ _ h => h) (Or.inl ⟨by rfl, ?_⟩) hHeld ?_
                  · (intro w hSw; (try dsimp only at hSw); go_simp)
                  simp only [Act.put, List.setIfInBounds_toArray, List.set_cons_zero, List.set_cons_succ]
                  refine wpAnyH_take_at (i := 5) (some 74) (.int .i64 (k : Int)) rfl rfl (by kernel_rfl) (by kernel_rfl) (by kernel_rfl) (fun _ _ _ h => h) (Or.inl ⟨by rfl, ?_⟩) hHeld ?_
                  · (intro w hSw; (try dsimp only at hSw); go_simp)
                  simp only [Act.put, List.setIfInBounds_toArray, List.set_cons_zero, List.set_cons_succ]
                  refine wpAnyH_take_at (i := 7) (some 76) (.int .i64 (l : Int)) rfl rfl (by kernel_rfl) (by kernel_rfl) (by kernel_rfl) (fun _ _ _ h => h) (Or.inl ⟨by rfl, ?_⟩) hHeld ?_
                  · (intro w hSw; (try dsimp only at hSw); go_simp)
                  simp only [Act.put, List.setIfInBounds_toArray, List.set_cons_zero, List.set_cons_succ]
                  refine wpAnyH_take_at (i := 9) (some 78) (.int .i64 (i : Int)) rfl rfl (by kernel_rfl) (by kernel_rfl) (by kernel_rfl) (fun _ _ _ h => h) (Or.inl ⟨by rfl, ?_⟩) hHeld ?_
                  · (intro w hSw; (try dsimp only at hSw); go_simp)
                  simp only [Act.put, List.setIfInBounds_toArray, List.set_cons_zero, List.set_cons_succ]
                  refine wpAnyH_take_at (i := 13) (some 82) (.int .i64 (j : Int)) rfl rfl (by kernel_rfl) (by kernel_rfl) (by kernel_rfl) (fun _ _ _ h => h) (Or.inl ⟨by rfl, ?_⟩) hHeld ?_
                  · (intro w hSw; (try dsimp only at hSw); go_simp)
                  simp only [Act.put, List.setIfInBounds_toArray, List.set_cons_zero, List.set_cons_succ]
                  refine wpAnyH_take_at (i := 17) (some 86) (.int .i64 (k : Int)) rfl rfl (by kernel_rfl) (by kernel_rfl) (by kernel_rfl) (fun _ _ _ h => h) (Or.inl ⟨by rfl, ?_⟩) hHeld ?_
                  · (intro w hSw; (try dsimp only at hSw); go_simp)
                  simp only [Act.put, List.setIfInBounds_toArray, List.set_cons_zero, List.set_cons_succ]
                  refine wpAnyH_take_at (i := 21) (some 90) (.int .i64 (l : Int)) rfl rfl (by kernel_rfl) (by kernel_rfl) (by kernel_rfl) (fun _ _ _ h => h) (Or.inl ⟨by rfl, ?_⟩) hHeld ?_
                  · (intro w hSw; (try dsimp only at hSw); go_simp)
                  simp only [Act.put, List.setIfInBounds_toArray, List.set_cons_zero, List.set_cons_succ]
                  refine wpAnyH_take_at (i := 10) (some 79) (.pointer (some ⟨B + 1, i, none⟩)) rfl rfl (by kernel_rfl) (by kernel_rfl) (by kernel_rfl) (fun _ _ _ h => h) (Or.inl ⟨by rfl, ?_⟩) hHeld ?_
                  · (intro w hSw; (try dsimp only at hSw); go_simp)
                  simp only [Act.put, List.setIfInBounds_toArray, List.set_cons_zero, List.set_cons_succ]
                  refine wpAnyH_take_at (i := 14) (some 83) (.pointer (some ⟨B + 1, j, none⟩)) rfl rfl (by kernel_rfl) (by kernel_rfl) (by kernel_rfl) (fun _ _ _ h => h) (Or.inl ⟨by rfl, ?_⟩) hHeld ?_
                  · (intro w hSw; (try dsimp only at hSw); go_simp)
                  simp only [Act.put, List.setIfInBounds_toArray, List.set_cons_zero, List.set_cons_succ]
                  refine wpAnyH_take_at (i := 18) (some 87) (.pointer (some ⟨B + 1, k, none⟩)) rfl rfl (by kernel_rfl) (by kernel_rfl) (by kernel_rfl) (fun _ _ _ h => h) (Or.inl ⟨by rfl, ?_⟩) hHeld ?_
                  · (intro w hSw; (try dsimp only at hSw); go_simp)
                  simp only [Act.put, List.setIfInBounds_toArray, List.set_cons_zero, List.set_cons_succ]
                  refine wpAnyH_take_at (i := 22) (some 91) (.pointer (some ⟨B + 1, l, none⟩)) rfl rfl (by kernel_rfl) (by kernel_rfl) (by kernel_rfl) (fun _ _ _ h => h) (Or.inl ⟨by rfl, ?_⟩) hHeld ?_
                  · (intro w hSw; (try dsimp only at hSw); go_simp)
                  simp only [Act.put, List.setIfInBounds_toArray, List.set_cons_zero, List.set_cons_succ]
                  refine wpAnyH_take_all 14 4 rfl [⟨11, _, some 80, (.int .u32 (a : Int))⟩, ⟨15, _, some 84, (.int .u32 (b : Int))⟩, ⟨19, _, some 88, (.int .u32 (c' : Int))⟩, ⟨23, _, some 92, (.int .u32 (d : Int))⟩] (by kernel_rfl) hHeld rfl ?hp (by simp) ?hap (List.forall_mem_cons.2 ⟨⟨rfl, rfl, Or.inl ⟨?p11, ?q11⟩⟩, (List.forall_mem_cons.2 ⟨⟨rfl, rfl, Or.inl ⟨?p15, ?q15⟩⟩, (List.forall_mem_cons.2 ⟨⟨rfl, rfl, Or.inl ⟨?p19, ?q19⟩⟩, (List.forall_mem_cons.2 ⟨⟨rfl, rfl, Or.inl ⟨?p23, ?q23⟩⟩, (fun _ h => by cases h)⟩)⟩)⟩)⟩) ?H
                  case p11 => rfl
                  case q11 => rintro w rfl; go_simp
                  case p15 => rfl
                  case q15 => rintro w rfl; go_simp
                  case p19 => rfl
                  case q19 => rintro w rfl; go_simp
                  case p23 => rfl
                  case q23 => rintro w rfl; go_simp
                  case hp => kernel_rfl
                  case hap => kernel_rfl
                  simp only [putAll, List.foldl_cons, List.foldl_nil, Act.put, List.setIfInBounds_toArray, List.set_cons_zero, List.set_cons_succ]
                  refine wpAnyH_only (i := 24) (by kernel_rfl) rfl rfl (fun K hK => ?_)
                  go_simp
                  go_at_call 12
                  refine (hcall.out _).mono ?_
                  rintro e w6 ⟨rfl, m, rfl⟩
                  obtain ⟨wq, hwq, R6, f0, f1, f2, f3, e0, e1, e2, e3, z0, z1, z2, z3⟩ : ∃ wq, Hid (w5.drew.drewN m = wq) ∧ Hid (RxR w B fx S wq) ∧ wq.cell? ⟨g, 0, none⟩ = some (.int .i64 (i : Int)) ∧ wq.cell? ⟨g, 1, none⟩ = some (.int .i64 (j : Int)) ∧ wq.cell? ⟨g, 2, none⟩ = some (.int .i64 (k : Int)) ∧ wq.cell? ⟨g, 3, none⟩ = some (.int .i64 (l : Int)) ∧ wq.cell? ⟨B + 1, i, none⟩ = some (.int .u32 (a : Int)) ∧ wq.cell? ⟨B + 1, j, none⟩ = some (.int .u32 (b : Int)) ∧ wq.cell? ⟨B + 1, k, none⟩ = some (.int .u32 (c' : Int)) ∧ wq.cell? ⟨B + 1, l, none⟩ = some (.int .u32 (d : Int)) ∧ wq.frozen? ⟨B + 1, i, none⟩ = false ∧ wq.frozen? ⟨B + 1, j, none⟩ = false ∧ wq.frozen? ⟨B + 1, k, none⟩ = false ∧ wq.frozen? ⟨B + 1, l, none⟩ = false :=
                    ⟨_, rfl, (R5.out.drewN 1).drewN m, f0, f1, f2, f3, e0, e1, e2, e3, z0, z1, z2, z3⟩
                  rw [hwq.out]
                  refine hK.out _ _ ⟨f0, f1, f2, f3⟩ ?_
                  clear hK K hwq hHeld R5 hcall
                  have hHeld : (fun w' => w'.cell? ⟨g, 0, none⟩ = some (.int .i64 (i : Int)) ∧ w'.cell? ⟨g, 1, none⟩ = some (.int .i64 (j : Int)) ∧ w'.cell? ⟨g, 2, none⟩ = some (.int .i64 (k : Int)) ∧ w'.cell? ⟨g, 3, none⟩ = some (.int .i64 (l : Int))) wq := ⟨f0, f1, f2, f3⟩
                  refine wpAnyH_take_at (i := 25) (some 68) (.tuple #[.int .u32 (a2 : Int), .int .u32 (b2 : Int), .int .u32 (c2 : Int), .int .u32 (d2 : Int)]) rfl rfl (by kernel_rfl) (by kernel_rfl) (by kernel_rfl) (fun _ _ _ h => h) (Or.inl ⟨by rfl, ?_⟩) hHeld ?_
                  · (intro w hSw; (try dsimp only at hSw); go_simp)
                  simp only [Act.put, List.setIfInBounds_toArray, List.set_cons_zero, List.set_cons_succ]
                  refine wpAnyH_take_at (i := 26) (some 94) (.int .u32 (a2 : Int)) rfl rfl (by kernel_rfl) (by kernel_rfl) (by kernel_rfl) (fun _ _ _ h => h) (Or.inl ⟨by rfl, ?_⟩) hHeld ?_
                  · (intro w hSw; (try dsimp only at hSw); go_simp)
                  simp only [Act.put, List.setIfInBounds_toArray, List.set_cons_zero, List.set_cons_succ]
                  refine wpAnyH_take_at (i := 27) (some 95) (.int .u32 (b2 : Int)) rfl rfl (by kernel_rfl) (by kernel_rfl) (by kernel_rfl) (fun _ _ _ h => h) (Or.inl ⟨by rfl, ?_⟩) hHeld ?_
                  · (intro w hSw; (try dsimp only at hSw); go_simp)
                  simp only [Act.put, List.setIfInBounds_toArray, List.set_cons_zero, List.set_cons_succ]
                  refine wpAnyH_take_at (i := 28) (some 96) (.int .u32 (c2 : Int)) rfl rfl (by kernel_rfl) (by kernel_rfl) (by kernel_rfl) (fun _ _ _ h => h) (Or.inl ⟨by rfl, ?_⟩) hHeld ?_
                  · (intro w hSw; (try dsimp only at hSw); go_simp)
                  simp only [Act.put, List.setIfInBounds_toArray, List.set_cons_zero, List.set_cons_succ]
                  refine wpAnyH_take_at (i := 29) (some 97) (.int .u32 (d2 : Int)) rfl rfl (by kernel_rfl) (by kernel_rfl) (by kernel_rfl) (fun _ _ _ h => h) (Or.inl ⟨by rfl, ?_⟩) hHeld ?_
                  · (intro w hSw; (try dsimp only at hSw); go_simp)
                  simp only [Act.put, List.setIfInBounds_toArray, List.set_cons_zero, List.set_cons_succ]
                  refine wpAnyH_take_at (i := 30) (some 98) (.pointer (some ⟨B + 1, i, none⟩)) rfl rfl (by kernel_rfl) (by kernel_rfl) (by kernel_rfl) (fun _ _ _ h => h) (Or.inl ⟨by rfl, ?_⟩) hHeld ?_
                  · (intro w hSw; (try dsimp only at hSw); go_simp)
                  simp only [Act.put, List.setIfInBounds_toArray, List.set_cons_zero, List.set_cons_succ]
                  refine wpAnyH_only (i := 31) (by kernel_rfl) rfl rfl (fun K hK => ?_)
                  go_simp
                  have hHeld2 : (fun w' => w'.cell? ⟨g, 0, none⟩ = some (.int .i64 (i : Int)) ∧ w'.cell? ⟨g, 1, none⟩ = some (.int .i64 (j : Int)) ∧ w'.cell? ⟨g, 2, none⟩ = some (.int .i64 (k : Int)) ∧ w'.cell? ⟨g, 3, none⟩ = some (.int .i64 (l : Int))) (wq.setCell ⟨B + 1, i, none⟩ (.int .u32 (a2 : Int))) := by (try dsimp only); go_keep
                  refine hK.out _ _ hHeld2 ?_
                  clear hK K hHeld
                  have hHeld := hHeld2
                  clear hHeld2
                  refine wpAnyH_take_at (i := 32) (some 99) (.pointer (some ⟨B + 1, j, none⟩)) rfl rfl (by kernel_rfl) (by kernel_rfl) (by kernel_rfl) (fun _ _ _ h => h) (Or.inl ⟨by rfl, ?_⟩) hHeld ?_
                  · (intro w hSw; (try dsimp only at hSw); go_simp)
                  simp only [Act.put, List.setIfInBounds_toArray, List.set_cons_zero, List.set_cons_succ]
                  refine wpAnyH_only (i := 33) (by kernel_rfl) rfl rfl (fun K hK => ?_)
                  go_simp
                  have hHeld2 : (fun w' => w'.cell? ⟨g, 0, none⟩ = some (.int .i64 (i : Int)) ∧ w'.cell? ⟨g, 1, none⟩ = some (.int .i64 (j : Int)) ∧ w'.cell? ⟨g, 2, none⟩ = some (.int .i64 (k : Int)) ∧ w'.cell? ⟨g, 3, none⟩ = some (.int .i64 (l : Int))) ((wq.setCell ⟨B + 1, i, none⟩ (.int .u32 (a2 : Int))).setCell ⟨B + 1, j, none⟩ (.int .u32 (b2 : Int))) := by (try dsimp only); go_keep
                  refine hK.out _ _ hHeld2 ?_
                  clear hK K hHeld
                  have hHeld := hHeld2
                  clear hHeld2
                  refine wpAnyH_take_at (i := 34) (some 100) (.pointer (some ⟨B + 1, k, none⟩)) rfl rfl (by kernel_rfl) (by kernel_rfl) (by kernel_rfl) (fun _ _ _ h => h) (Or.inl ⟨by rfl, ?_⟩) hHeld ?_
                  · (intro w hSw; (try dsimp only at hSw); go_simp)
                  simp only [Act.put, List.setIfInBounds_toArray, List.set_cons_zero, List.set_cons_succ]
                  refine wpAnyH_only (i := 35) (by kernel_rfl) rfl rfl (fun K hK => ?_)
                  go_simp
                  have hHeld2 : (fun w' => w'.cell? ⟨g, 0, none⟩ = some (.int .i64 (i : Int)) ∧ w'.cell? ⟨g, 1, none⟩ = some (.int .i64 (j : Int)) ∧ w'.cell? ⟨g, 2, none⟩ = some (.int .i64 (k : Int)) ∧ w'.cell? ⟨g, 3, none⟩ = some (.int .i64 (l : Int))) (((wq.setCell ⟨B + 1, i, none⟩ (.int .u32 (a2 : Int))).setCell ⟨B + 1, j, none⟩ (.int .u32 (b2 : Int))).setCell ⟨B + 1, k, none⟩ (.int .u32 (c2 : Int))) := by (try dsimp only); go_keep
                  refine hK.out _ _ hHeld2 ?_
                  clear hK K hHeld
                  have hHeld := hHeld2
                  clear hHeld2
                  refine wpAnyH_take_at (i := 36) (some 101) (.pointer (some ⟨B + 1, l, none⟩)) rfl rfl (by kernel_rfl) (by kernel_rfl) (by kernel_rfl) (fun _ _ _ h => h) (Or.inl ⟨by rfl, ?_⟩) hHeld ?_
                  · (intro w hSw; (try dsimp only at hSw); go_simp)
                  simp only [Act.put, List.setIfInBounds_toArray, List.set_cons_zero, List.set_cons_succ]
                  refine wpAnyH_only (i := 37) (by kernel_rfl) rfl rfl (fun K hK => ?_)
                  go_simp
                  have hHeld2 : (fun w' => w'.cell? ⟨g, 0, none⟩ = some (.int .i64 (i : Int)) ∧ w'.cell? ⟨g, 1, none⟩ = some (.int .i64 (j : Int)) ∧ w'.cell? ⟨g, 2, none⟩ = some (.int .i64 (k : Int)) ∧ w'.cell? ⟨g, 3, none⟩ = some (.int .i64 (l : Int))) ((((wq.setCell ⟨B + 1, i, none⟩ (.int .u32 (a2 : Int))).setCell ⟨B + 1, j, none⟩ (.int .u32 (b2 : Int))).setCell ⟨B + 1, k, none⟩ (.int .u32 (c2 : Int))).setCell ⟨B + 1, l, none⟩ (.int .u32 (d2 : Int))) := by (try dsimp only); go_keep
                  refine hK.out _ _ hHeld2 ?_
                  clear hK K hHeld
                  have hHeld := hHeld2
                  clear hHeld2
                  refine wpAnyH_done (by kernel_rfl) ?_ _
                  have R7 := hidIt (R6.out.step bi bj bk bl a2 b2 c2 d2 hSoh.out.len)
                  clear hHeld R6 f0 f1 f2 f3 e0 e1 e2 e3 z0 z1 z2 z3
                  generalize ((((wq.setCell ⟨B + 1, i, none⟩ (.int .u32 (a2 : Int))).setCell ⟨B + 1, j, none⟩ (.int .u32 (b2 : Int))).setCell ⟨B + 1, k, none⟩ (.int .u32 (c2 : Int))).setCell ⟨B + 1, l, none⟩ (.int .u32 (d2 : Int))) = w7 at *
                  go_wp2_with (fail)
                  go_roundw
                  case rel =>
                    refine ⟨t + 1, by omega, by go_num, ?_⟩
                    show RxR _ _ _ _ _
                    have e : Cc.qn (Cc.rn X r) (t + 1) = Cc.put4 S (i, j, k, l) ⟨a2, b2, c2, d2⟩ := by
                      show Cc.qs (Cc.qn (Cc.rn X r) t) (Cc.T t) = _
                      rw [hS.out, hTh.out, ← hq.out, ← ha.out, ← hb.out, ← hc.out, ← hd.out]
                      rfl
                    rw [e]
                    exact R7.out
                  case measure => simp [intOf]; omega
                  -- END21
                · have hR8 : Hid (RxR w B fx (Cc.rn X (r + 1)) wr) := by
                    have e : t = 8 := by omega
                    rw [e] at R
                    exact R
                  have t4 : ¬ (t : Int) < 8 := by omega
                  clear R
                  go_wp2_with (fail)
                  go_roundw
                  case rel => exact ⟨r + 1, by omega, by go_num, hR8⟩
                  case measure => simp [intOf]; omega
            · have hR10 : Hid (RxR w B fx (Cc.rn X 10) wr) := by
                have e : r = 10 := by omega
                rw [e] at R
                exact R
              have t3 : ¬ (r : Int) < 10 := by omega
              clear R
              go_wp2_with (fail)
              obtain ⟨N, hN⟩ : ∃ N, Hid (wr.heap.size = N) := ⟨_, rfl⟩
              have hBN : Hid (B + 1 < N) := by show _ < _; rw [← hN.out]; exact hR10.out.x.lt
              have hob0 := hidIt (emptyOwnAt wr N (Nat.le_of_eq hN.out.symm))
              have hb0 : Hid (Below N (wr.alloc (.cells #[] 5)) (wr.alloc (.cells #[] 5))) := Below.refl _ _
              have hRA := hidIt (hR10.out.alloc (.cells #[] 5))
              have hNs : Hid (N ≤ (wr.alloc (.cells #[] 5)).heap.size) := by show _ ≤ _; rw [← hN.out, World.size_alloc]; omega
              have hzl : Hid (zs.length = 64) := by show _ = _; rw [← hzs.out, Cc.block_len]
              have hzt : Hid (∀ k, k < 16 → ∃ z, z < 4294967296 ∧ z = Cc.add ((Cc.rn X 10).getD k 0) (X.getD k 0) ∧ zs.take (4 * (k + 1)) = zs.take (4 * k) ++ [Cc.byt z 0, Cc.byt z 1, Cc.byt z 2, Cc.byt z 3]) := fun k hk => ⟨Cc.sumw X k, Cc.add_lt _ _, rfl, by rw [← hzs.out]; exact block_take X k hk⟩
              clear hR10
              generalize wr.alloc (.cells #[] 5) = wA at *
              go_loopw [17, 16, 18] (fun i v _ wr => ∃ (k : Nat), k ≤ 16 ∧ i = .int .i64 k ∧ Hid (wr.ownsRow N 5 1 v (4 * k) (vals (zs.take (4 * k)))) ∧ Hid (Below N wA wr)) (fun i _ _ _ => 16 - (intOf i).toNat)
              case atStart => exact ⟨0, by omega, rfl, by rw [Nat.mul_zero, List.take_zero, ← hN.out]; exact hN.out ▸ hob0, hb0⟩
              case round =>
                clear hob0 hb0
                obtain ⟨k3, hk, rfl, hown, hb⟩ := hrel
                by_cases hlt : k3 < 16
                · obtain ⟨z, hz1, hz2, hz3⟩ := hzt.out k3 hlt
                  have R1 := hidIt (hRA.out.below hb.out hBN.out)
                  obtain ⟨x, hx⟩ : ∃ x, Hid (fx k3 = x) := ⟨_, rfl⟩
                  obtain ⟨y, hy⟩ : ∃ y, Hid ((Cc.rn X 10).getD k3 0 = y) := ⟨_, rfl⟩
                  have c1 := R1.out.fst.cell k3
                  have c2 := R1.out.x.cell k3
                  rw [rowA_all _ _ _ _ (by omega), hx.out] at c1
                  rw [rowA_all _ _ _ _ (by omega), hy.out] at c2
                  have hz4 : IntKind.u32.wrap ((y : Int) + (x : Int)) = (z : Int) := by
                    rw [hz2, hy.out, show X.getD k3 0 = x by rw [← hx.out, ← hfx.out]]
                    unfold Cc.add
                    rw [IntKind.wrap_u32]; omega
                  have hz5 := hidIt hz3
                  obtain ⟨b0, hb0, g0⟩ : ∃ b : Nat, Hid (Cc.byt z 0 = b) ∧ IntKind.u8.wrap (z : Int) = (b : Int) := ⟨_, rfl, by rw [IntKind.wrap_u8]; show _ = ((z / 1 % 256 : Nat) : Int); omega⟩
                  obtain ⟨b1, hb1, g1⟩ : ∃ b : Nat, Hid (Cc.byt z 1 = b) ∧ IntKind.u8.wrap ((z : Int) / 256) = (b : Int) := ⟨_, rfl, by rw [IntKind.wrap_u8]; show _ = ((z / 256 % 256 : Nat) : Int); omega⟩
                  obtain ⟨b2, hb2, g2⟩ : ∃ b : Nat, Hid (Cc.byt z 2 = b) ∧ IntKind.u8.wrap ((z : Int) / 65536) = (b : Int) := ⟨_, rfl, by rw [IntKind.wrap_u8]; show _ = ((z / 65536 % 256 : Nat) : Int); omega⟩
                  obtain ⟨b3, hb3, g3⟩ : ∃ b : Nat, Hid (Cc.byt z 3 = b) ∧ IntKind.u8.wrap ((z : Int) / 16777216) = (b : Int) := ⟨_, rfl, by rw [IntKind.wrap_u8]; show _ = ((z / 16777216 % 256 : Nat) : Int); omega⟩
                  rw [hb0.out, hb1.out, hb2.out, hb3.out] at hz5
                  have t5 : (k3 : Int) < 16 := by omega
                  have t6 : (0 : Int) ≤ (k3 : Int) := by omega
                  clear hz2 hz3 hz1 R1
                  go_wp2_with (fail)
                  go_quiet (fail)
                  obtain ⟨wq, hwq, hownq, hbq⟩ : ∃ wq, Hid (wr.drewN nq = wq) ∧ Hid (wq.ownsRow N 5 1 u16 (4 * k3) (vals (zs.take (4 * k3)))) ∧ Hid (Below N wA wq) := ⟨_, rfl, hown.out, below_drewN hb.out _⟩
                  rw [hwq.out]
                  clear c1 c2 hown hb hwq
                  have hby : Hid (Bytes (wq.alloc (.cells #[.int .u8 b0, .int .u8 b1, .int .u8 b2, .int .u8 b3] 5)) (some ⟨wq.heap.size, 0, none⟩) [b0, b1, b2, b3]) := by
                    intro j hj
                    have hN4 := Blk.new wq 5 #[.int .u8 b0, .int .u8 b1, .int .u8 b2, .int .u8 b3]
                    refine ⟨_, 0, rfl, ?_⟩
                    rw [Nat.zero_add, hN4.cell]
                    have hj4 : j < 4 := hj
                    match j, hj4 with
                    | 0, _ | 1, _ | 2, _ | 3, _ => rfl
                  have hNq : N ≤ wq.heap.size := Nat.le_trans hNs.out hbq.out.size
                  go_wp2_with (refine wpList_append_bytes (wq.alloc (.cells #[.int .u8 b0, .int .u8 b1, .int .u8 b2, .int .u8 b3] 5)) rfl _ _ rfl N u16 (4 * k3) (vals (zs.take (4 * k3))) rfl (hownq.out.alloc _) (some ⟨wq.heap.size, 0, none⟩) 4 4 [b0, b1, b2, b3] rfl rfl hby.out (fun h => by cases h) (by simp only [List.length_cons, List.length_nil]; omega) (by rw [World.size_alloc]; omega) ?_; intro v' w8 hown8 hg8; replace hown8 := hidIt hown8; replace hg8 := hidIt hg8)
                  have hown9 : Hid (w8.ownsRow N 5 1 v' (4 * (k3 + 1)) (vals (zs.take (4 * (k3 + 1))))) := by
                    rw [hz5.out, ← vals_append]
                    exact hown8.out
                  have hb9 : Hid (Below N wA w8) := (hbq.out.alloc hNq _).grown hg8.out (by rw [World.size_alloc]; omega) (fun q hq => (hownq.out.lt q hq).1)
                  clear hown8 hg8 hownq hbq hby
                  go_roundw
                  case rel => exact ⟨k3 + 1, by omega, by go_num, hown9, hb9⟩
                  case measure => simp [intOf]; omega
                · have t5 : ¬ (k3 : Int) < 16 := by omega
                  have hl2 := hzl.out
                  have hown9 : Hid (wr.ownsRow N 5 1 u16 zs.length (vals zs)) := by
                    have e : k3 = 16 := by omega
                    have h := hown.out
                    rw [e, show 4 * 16 = zs.length by omega, List.take_length] at h
                    exact h
                  obtain ⟨a', c', rfl, hby, _⟩ := owned_bytes hown9.out rfl
                  have hcap := owned_cap hown9.out
                  have hBf : Hid (Below w.heap.size w wr) := hRA.out.bel.trans (hb.out.mono (by have := hRA.out.lt; have := hBN.out; omega))
                  clear hown hown9 hb
                  go_wp2_with (fail)
                  go_ret2
                  exact ⟨⟨a', c', by rw [hl2]; rfl, hby, hcap⟩, hBf.out⟩
end Go.Proofs.Ytnkemflpenlmgaa
