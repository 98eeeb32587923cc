import Derived.Test.YtnkemflpenlmgaaBegin
import Derived.BigRegion
namespace Go.Proofs.Ytnkemflpenlmgaa
open Go.RowKit
def tabV : Array Value := #[.int .u8 0, .int .u8 4, .int .u8 8, .int .u8 12, .int .u8 1, .int .u8 5, .int .u8 9, .int .u8 13, .int .u8 2, .int .u8 6, .int .u8 10, .int .u8 14, .int .u8 3, .int .u8 7, .int .u8 11, .int .u8 15, .int .u8 0, .int .u8 5, .int .u8 10, .int .u8 15, .int .u8 1, .int .u8 6, .int .u8 11, .int .u8 12, .int .u8 2, .int .u8 7, .int .u8 8, .int .u8 13, .int .u8 3, .int .u8 4, .int .u8 9, .int .u8 14]
theorem builtT : Try.prog.built 52 [(0, .agg #[.int .u8 0, .int .u8 4, .int .u8 8, .int .u8 12]), (1, .agg #[.int .u8 1, .int .u8 5, .int .u8 9, .int .u8 13]), (2, .agg #[.int .u8 2, .int .u8 6, .int .u8 10, .int .u8 14]), (3, .agg #[.int .u8 3, .int .u8 7, .int .u8 11, .int .u8 15]), (4, .agg #[.int .u8 0, .int .u8 5, .int .u8 10, .int .u8 15]), (5, .agg #[.int .u8 1, .int .u8 6, .int .u8 11, .int .u8 12]), (6, .agg #[.int .u8 2, .int .u8 7, .int .u8 8, .int .u8 13]), (7, .agg #[.int .u8 3, .int .u8 4, .int .u8 9, .int .u8 14])] = some tabV := by kernel_rfl
abbrev Z32 : Array Value := #[.int .u8 0, .int .u8 0, .int .u8 0, .int .u8 0, .int .u8 0, .int .u8 0, .int .u8 0, .int .u8 0, .int .u8 0, .int .u8 0, .int .u8 0, .int .u8 0, .int .u8 0, .int .u8 0, .int .u8 0, .int .u8 0, .int .u8 0, .int .u8 0, .int .u8 0, .int .u8 0, .int .u8 0, .int .u8 0, .int .u8 0, .int .u8 0, .int .u8 0, .int .u8 0, .int .u8 0, .int .u8 0, .int .u8 0, .int .u8 0, .int .u8 0, .int .u8 0]
theorem zeroTab (w : World) : (zeroValue 52).run Try.prog w = .ok (.agg #[.int .u8 0, .int .u8 0, .int .u8 0, .int .u8 0, .int .u8 0, .int .u8 0, .int .u8 0, .int .u8 0, .int .u8 0, .int .u8 0, .int .u8 0, .int .u8 0, .int .u8 0, .int .u8 0, .int .u8 0, .int .u8 0, .int .u8 0, .int .u8 0, .int .u8 0, .int .u8 0, .int .u8 0, .int .u8 0, .int .u8 0, .int .u8 0, .int .u8 0, .int .u8 0, .int .u8 0, .int .u8 0, .int .u8 0, .int .u8 0, .int .u8 0, .int .u8 0]) w := by kernel_rfl
theorem infoTab : (Try.prog.info? 52).map (·.size) = some tabV.size := by kernel_rfl
theorem tabOne : tabV.all (·.oneCell') = true := by simp [tabV, Value.oneCell']
theorem idxTab (t : Nat) (ht : t < 8) : ∃ i j k l : Nat, Cc.T t = (i, j, k, l) ∧ (i < 16 ∧ j < 16 ∧ k < 16 ∧ l < 16) ∧ (i ≠ j ∧ i ≠ k ∧ i ≠ l ∧ j ≠ k ∧ j ≠ l ∧ k ≠ l) ∧
    ∀ W, (Instr.index 52 (.agg tabV) (.int .i64 t)).run Try.prog W = .ok (.agg #[.int .u8 i, .int .u8 j, .int .u8 k, .int .u8 l]) W := by
  match t, ht with
  | 0, _ => exact ⟨0, 4, 8, 12, rfl, by decide, by decide, fun W => by kernel_rfl⟩
  | 1, _ => exact ⟨1, 5, 9, 13, rfl, by decide, by decide, fun W => by kernel_rfl⟩
  | 2, _ => exact ⟨2, 6, 10, 14, rfl, by decide, by decide, fun W => by kernel_rfl⟩
  | 3, _ => exact ⟨3, 7, 11, 15, rfl, by decide, by decide, fun W => by kernel_rfl⟩
  | 4, _ => exact ⟨0, 5, 10, 15, rfl, by decide, by decide, fun W => by kernel_rfl⟩
  | 5, _ => exact ⟨1, 6, 11, 12, rfl, by decide, by decide, fun W => by kernel_rfl⟩
  | 6, _ => exact ⟨2, 7, 8, 13, rfl, by decide, by decide, fun W => by kernel_rfl⟩
  | 7, _ => exact ⟨3, 4, 9, 14, rfl, by decide, by decide, fun W => by kernel_rfl⟩
structure MxR (w : World) (S : List Nat) (wr : World) : Prop where
  row : Blk wr w.heap.size 41 (rowA .u32 (fun k => S.getD k 0) 16 16)
  res : Blk wr (w.heap.size + 1) 41 (rowA .u32 (fun _ => 0) 16 0)
  tab : Blk wr (w.heap.size + 2) 52 tabV
  bel : Below w.heap.size w wr
theorem mx_start (w : World) (f : Nat → Nat) (xs : List Nat) (hf : (fun k => xs.getD k 0) = f) : MxR w xs ((((w.alloc (.cells (rowA .u32 f 16 16) 41)).alloc (.cells (rowA .u32 (fun _ => 0) 16 0) 41)).alloc (.cells Z32 52)).setRow (w.heap.size + 1 + 1) tabV) := by
  subst hf
  have h2 := Blk.new ((w.alloc (.cells (rowA .u32 (fun k => xs.getD k 0) 16 16) 41)).alloc (.cells (rowA .u32 (fun _ => 0) 16 0) 41)) 52 Z32
  have h1 := Blk.new (w.alloc (.cells (rowA .u32 (fun k => xs.getD k 0) 16 16) 41)) 41 (rowA .u32 (fun _ => 0) 16 0)
  rw [World.size_alloc, World.size_alloc] at h2
  rw [World.size_alloc] at h1
  exact ⟨(setRow_other _ _ _ _ (by omega)).trans (((Blk.new w _ _).alloc _).alloc _), (setRow_other _ _ _ _ (by omega)).trans (h1.alloc _), setRow_heap _ _ _ _ _ _ h2, below_setRow ((((Below.refl _ _).alloc (Nat.le_refl _) _).alloc (by simp) _).alloc (by simp; omega) _) (by omega) _⟩
theorem getD_set (xs : List Nat) (k v n : Nat) (h : n < xs.length) : (xs.set k v).getD n 0 = if n = k then v else xs.getD n 0 := by
  rw [List.getD_eq_getElem?_getD, List.getElem?_set]
  by_cases hk : k = n
  · subst hk; rw [if_pos rfl, if_pos h, if_pos rfl]; rfl
  · rw [if_neg hk, if_neg (fun e => hk e.symm), List.getD_eq_getElem?_getD]
theorem mx_step {w wq : World} {S : List Nat} (R : MxR w S wq) {i j k l : Nat} (_hi : i < 16) (_hj : j < 16) (_hk : k < 16) (_hl : l < 16) (a b c d : Nat) (hS : S.length = 16) :
    MxR w (Cc.put4 S (i, j, k, l) ⟨a, b, c, d⟩) ((((wq.setCell ⟨w.heap.size, i, none⟩ (.int .u32 a)).setCell ⟨w.heap.size, j, none⟩ (.int .u32 b)).setCell ⟨w.heap.size, k, none⟩ (.int .u32 c)).setCell ⟨w.heap.size, l, none⟩ (.int .u32 d)) := by
  refine ⟨?_, ?_, ?_, ?_⟩
  · have h := (((R.row.set_ i (.int .u32 a)).set_ j (.int .u32 b)).set_ k (.int .u32 c)).set_ l (.int .u32 d)
    rw [rowA_upd, rowA_upd, rowA_upd, rowA_upd] at h
    rw [rowA_congr (g := fun n => if n = l then d else if n = k then c else if n = j then b else if n = i then a else S.getD n 0) (fun n hn => ?_)]
    · exact h
    · show ((((S.set i a).set j b).set k c).set l d).getD n 0 = _
      rw [getD_set _ _ _ _ (by simp only [List.length_set]; omega), getD_set _ _ _ _ (by simp only [List.length_set]; omega), getD_set _ _ _ _ (by simp only [List.length_set]; omega), getD_set _ _ _ _ (by omega)]
  · have h : ∀ q, w.heap.size + 1 ≠ (⟨w.heap.size, q, none⟩ : Addr).block := fun q => by show _ ≠ w.heap.size; omega
    exact (((R.res.far (h i) _).far (h j) _).far (h k) _).far (h l) _
  · have h : ∀ q, w.heap.size + 2 ≠ (⟨w.heap.size, q, none⟩ : Addr).block := fun q => by show _ ≠ w.heap.size; omega
    exact (((R.tab.far (h i) _).far (h j) _).far (h k) _).far (h l) _
  · exact (((R.bel.setCell (Nat.le_refl _) _).setCell (Nat.le_refl _) _).setCell (Nat.le_refl _) _).setCell (Nat.le_refl _) _
theorem MxR.drew {w wq : World} {S : List Nat} (R : MxR w S wq) : MxR w S wq.drew := ⟨R.row.drewN 1, R.res.drewN 1, R.tab.drewN 1, R.bel.drew⟩
set_option maxRecDepth 100000 in
set_option maxHeartbeats 1000000 in
theorem mixed_any (xs : List Nat) (hx : Cc.Ok xs) (w : World) :
    Calls Try.prog 28 #[.agg (rowA .u32 (fun k => xs.getD k 0) 16 16)] w fun e w' => e = .returned (.agg (rowA .u32 (fun k => (Cc.rn xs 10).getD k 0) 16 16)) ∧ Below w.heap.size w w' := by
  obtain ⟨f, hf⟩ : ∃ f : Nat → Nat, Hid ((fun k => xs.getD k 0) = f) := ⟨_, rfl⟩
  rw [hf.out]
  have hz := zeroSt
  have hz2 := zeroTab
  have h0 := hidIt (Blk.new ((w.alloc (.cells (rowA .u32 f 16 16) 41)).alloc (.cells (rowA .u32 (fun _ => 0) 16 0) 41)) 52 Z32)
  rw [World.size_alloc, World.size_alloc] at h0
  go_enter Try.func28, Try.ntmps28
  go_wp2_with (refine wpList_store_row rfl 52 _ _ rfl (w.heap.size + 1 + 1) tabV rfl rfl 52 Z32 h0.out infoTab rfl tabOne ?_)
  have R0 := hidIt (mx_start w f xs hf.out)
  clear h0 hz2
  generalize ((((w.alloc (.cells (rowA .u32 f 16 16) 41)).alloc (.cells (rowA .u32 (fun _ => 0) 16 0) 41)).alloc (.cells Z32 52)).setRow (w.heap.size + 1 + 1) tabV) = w1 at *
  go_loopw [19, 5, 6, 7, 8, 9] (fun i _ _ _ _ _ wr => ∃ r : Nat, r ≤ 10 ∧ i = .int .i64 r ∧ Hid (MxR w (Cc.rn xs r) wr)) (fun i _ _ _ _ _ _ => 10 - (intOf i).toNat)
  case atStart => exact ⟨0, by omega, rfl, R0⟩
  case round =>
    obtain ⟨r, hr, rfl, R⟩ := hrel
    by_cases hlt : r < 10
    · have t1 : (r : Int) < 10 := by omega
      go_wp2_with (refine wpList_load_row rfl 52 _ rfl (w.heap.size + 1 + 1) rfl 52 tabV (0, 0) _ R.out.tab Try.underlying52 rfl infoTab ?_)
      go_loopw [22, 5, 6, 7, 8, 9] (fun i _ _ _ _ _ wr => ∃ t : Nat, t ≤ 8 ∧ i = .int .i64 t ∧ Hid (MxR w (Cc.qn (Cc.rn xs r) t) wr)) (fun i _ _ _ _ _ _ => 8 - (intOf i).toNat)
      case atStart => exact ⟨0, by omega, rfl, R⟩
      case round =>
        clear R
        obtain ⟨t, ht, rfl, R⟩ := hrel
        by_cases hlt2 : t < 8
        · obtain ⟨i, j, k, l, hT, ⟨bi, bj, bk, bl⟩, ⟨nij, nik, nil, njk, njl, nkl⟩, hix⟩ := idxTab t hlt2
          have t2 : (t : Int) < 8 := by omega
          obtain ⟨S, hS⟩ : ∃ S, Hid (Cc.qn (Cc.rn xs r) t = S) := ⟨_, rfl⟩
          rw [hS.out] at R
          have hSo : Cc.Ok S := by rw [← hS.out]; exact Cc.qn_ok (Cc.rn_ok hx r) t
          obtain ⟨a, ha⟩ : ∃ a, Hid (S.getD i 0 = a) := ⟨_, rfl⟩
          obtain ⟨b, hb⟩ : ∃ b, Hid (S.getD j 0 = b) := ⟨_, rfl⟩
          obtain ⟨c, hc⟩ : ∃ c, Hid (S.getD k 0 = c) := ⟨_, rfl⟩
          obtain ⟨d, hd⟩ : ∃ d, Hid (S.getD l 0 = d) := ⟨_, rfl⟩
          have hQ : (⟨a, b, c, d⟩ : Cc.Q).Ok := ⟨by rw [← ha.out]; exact hSo.lt i, by rw [← hb.out]; exact hSo.lt j, by rw [← hc.out]; exact hSo.lt k, by rw [← hd.out]; exact hSo.lt l⟩
          obtain ⟨a2, b2, c2, d2, hq⟩ : ∃ a2 b2 c2 d2, Hid (Cc.qr ⟨a, b, c, d⟩ = ⟨a2, b2, c2, d2⟩) := ⟨_, _, _, _, rfl⟩
          have hcall := fun W => quarter_any ⟨a, b, c, d⟩ hQ W
          rw [hq.out] at hcall
          simp only at hcall
          go_wp2_with (fail)
          have hgl : w.heap.size + 2 < wr.heap.size := R.out.tab.lt
          have q0 : (i : Int) < 16 := by omega
          have q1 : (j : Int) < 16 := by omega
          have q2 : (k : Int) < 16 := by omega
          have q3 : (l : Int) < 16 := by omega
          obtain ⟨w5, hw5, R5, g5, f0, f1, f2, f3⟩ : ∃ w5, Hid (wr.alloc (.cells #[.int .u8 i, .int .u8 j, .int .u8 k, .int .u8 l] 51) = w5) ∧ Hid (MxR w S w5) ∧ Hid (w5.heap.size = wr.heap.size + 1) ∧
              w5.cell? ⟨wr.heap.size, 0, none⟩ = some (.int .u8 i) ∧ w5.cell? ⟨wr.heap.size, 1, none⟩ = some (.int .u8 j) ∧ w5.cell? ⟨wr.heap.size, 2, none⟩ = some (.int .u8 k) ∧ w5.cell? ⟨wr.heap.size, 3, none⟩ = some (.int .u8 l) := by
            have hN := Blk.new wr 51 #[.int .u8 i, .int .u8 j, .int .u8 k, .int .u8 l]
            exact ⟨_, rfl, ⟨R.out.row.alloc _, R.out.res.alloc _, R.out.tab.alloc _, R.out.bel.alloc (by omega) _⟩, World.size_alloc _ _, hN.cell 0, hN.cell 1, hN.cell 2, hN.cell 3⟩
          rw [hw5.out]
          have e0 : w5.cell? ⟨w.heap.size, i, none⟩ = some (.int .u32 a) := by rw [R5.out.row.cell, rowA_all _ _ _ _ bi, ha.out]
          have e1 : w5.cell? ⟨w.heap.size, j, none⟩ = some (.int .u32 b) := by rw [R5.out.row.cell, rowA_all _ _ _ _ bj, hb.out]
          have e2 : w5.cell? ⟨w.heap.size, k, none⟩ = some (.int .u32 c) := by rw [R5.out.row.cell, rowA_all _ _ _ _ bk, hc.out]
          have e3 : w5.cell? ⟨w.heap.size, l, none⟩ = some (.int .u32 d) := by rw [R5.out.row.cell, rowA_all _ _ _ _ bl, hd.out]
          have z0 := R5.out.row.frozen i
          have z1 := R5.out.row.frozen j
          have z2 := R5.out.row.frozen k
          have z3 := R5.out.row.frozen l
          have ne : ¬ wr.heap.size = w.heap.size := by omega
          have ne2 : ¬ w.heap.size = wr.heap.size := by omega
          have m0 : ¬ i = j := nij
          have m1 : ¬ j = k := njk
          have m2 : ¬ k = l := nkl
          have m3 : ¬ i = k := nik
          have m4 : ¬ i = l := nil
          have m5 : ¬ j = l := njl
          have m6 : ¬ j = i := fun e => nij e.symm
          have m7 : ¬ k = j := fun e => njk e.symm
          have m8 : ¬ l = k := fun e => nkl e.symm
          have m9 : ¬ k = i := fun e => nik e.symm
          have m10 : ¬ l = i := fun e => nil e.symm
          have m11 : ¬ l = j := fun e => njl e.symm
          have hTh := hidIt hT
          have hSoh := hidIt hSo
          clear nij nik nil njk njl nkl hT hSo hix R hQ hw5 hlt hlt2 hr ht
          go_quiet ((go_at_call 11; exact Calls.quiet_of_same ((hcall _).mono fun _ _ x => ⟨x.1, x.2.symm⟩)))
          go_wp2_with (fail)
          obtain ⟨wq, hwq, R6, f0, f1, f2, f3, e0, e1, e2, e3, z0, z1, z2, z3⟩ : ∃ wq, Hid (w5.drewN nq = wq) ∧ Hid (MxR w S wq) ∧ wq.cell? ⟨wr.heap.size, 0, none⟩ = some (.int .u8 i) ∧ wq.cell? ⟨wr.heap.size, 1, none⟩ = some (.int .u8 j) ∧ wq.cell? ⟨wr.heap.size, 2, none⟩ = some (.int .u8 k) ∧ wq.cell? ⟨wr.heap.size, 3, none⟩ = some (.int .u8 l) ∧
              wq.cell? ⟨w.heap.size, i, none⟩ = some (.int .u32 a) ∧ wq.cell? ⟨w.heap.size, j, none⟩ = some (.int .u32 b) ∧ wq.cell? ⟨w.heap.size, k, none⟩ = some (.int .u32 c) ∧ wq.cell? ⟨w.heap.size, l, none⟩ = some (.int .u32 d) ∧
              wq.frozen? ⟨w.heap.size, i, none⟩ = false ∧ wq.frozen? ⟨w.heap.size, j, none⟩ = false ∧ wq.frozen? ⟨w.heap.size, k, none⟩ = false ∧ wq.frozen? ⟨w.heap.size, l, none⟩ = false :=
            ⟨_, rfl, ⟨R5.out.row.drewN _, R5.out.res.drewN _, R5.out.tab.drewN _, below_drewN R5.out.bel _⟩, f0, f1, f2, f3, e0, e1, e2, e3, z0, z1, z2, z3⟩
          rw [hwq.out]
          clear hwq R5 g5 hcall
          generalize wr.heap.size = g at *
          go_region
          have R7 := hidIt (fun hl => (mx_step R6.out bi bj bk bl a2 b2 c2 d2 hl).drew)
          clear R6 f0 f1 f2 f3 e0 e1 e2 e3 z0 z1 z2 z3
          generalize ((((wq.setCell ⟨w.heap.size, i, none⟩ (.int .u32 a2)).setCell ⟨w.heap.size, j, none⟩ (.int .u32 b2)).setCell ⟨w.heap.size, k, none⟩ (.int .u32 c2)).setCell ⟨w.heap.size, l, none⟩ (.int .u32 d2)).drew = w7 at *
          go_wp2_with (fail)
          go_roundw
          case rel =>
            refine ⟨t + 1, by omega, by go_num, ?_⟩
            show MxR _ _ _
            have e : Cc.qn (Cc.rn xs r) (t + 1) = Cc.put4 S (i, j, k, l) ⟨a2, b2, c2, d2⟩ := by
              show Cc.qs (Cc.qn (Cc.rn xs r) t) (Cc.T t) = _
              rw [hS.out, hTh.out, ← hq.out, ← ha.out, ← hb.out, ← hc.out, ← hd.out]
              rfl
            rw [e]
            exact R7.out hSoh.out.len
          case measure => simp [intOf]; omega
        · obtain rfl : t = 8 := by omega
          go_wp2_with (fail)
          go_roundw
          case rel => exact ⟨r + 1, by omega, by go_num, R⟩
          case measure => simp [intOf]; omega
    · obtain rfl : r = 10 := by omega
      obtain ⟨F, hF⟩ : ∃ F : Nat → Nat, Hid ((fun k => (Cc.rn xs 10).getD k 0) = F) := ⟨_, rfl⟩
      have hB := hidIt R.out.row
      have hR := hidIt R.out.res
      have hb := hidIt R.out.bel
      rw [hF.out] at hB
      clear R R0
      go_wp2_with (first | (refine wpList_load_row rfl 41 _ rfl w.heap.size rfl 41 (rowA .u32 F 16 16) (0, 0) _ hB.out Try.underlying41 rfl infoSt ?_) | (refine wpList_store_row rfl 41 _ _ rfl (w.heap.size + 1) (rowA .u32 F 16 16) rfl rfl 41 (rowA .u32 (fun _ => 0) 16 0) hR.out infoSt ?c1 (rowA_one _ _ _ _) ?_))
      case c1 => rw [rowA_size, rowA_size]
      exact bodyPost_ret (v := .agg (rowA .u32 F 16 16)) (results_cell_row (g := w.heap.size + 1) Try.results28 _ _ _ _ _ _ rfl (setRow_heap _ _ _ _ _ _ hR.out) Try.underlying41 rfl infoSt) rfl ⟨by rw [← hF.out], below_setRow hb.out (by omega) _⟩
end Go.Proofs.Ytnkemflpenlmgaa
