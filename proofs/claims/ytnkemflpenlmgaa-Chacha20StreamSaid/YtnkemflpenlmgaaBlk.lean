import Derived.Test.YtnkemflpenlmgaaMix
namespace Go.Proofs.Ytnkemflpenlmgaa
open Go.RowKit
theorem zero64 (w : World) : (zeroValue 39).run Try.prog w = .ok (.agg (rowA .u8 (fun _ => 0) 64 0)) w := by kernel_rfl
theorem info64 {f : Nat → Nat} : (Try.prog.info? 39).map (·.size) = some (rowA .u8 f 64 64).size := by rw [rowA_size]; kernel_rfl
/-- the blocks of memory in block's loop: the state, the result, the mixed state -/
structure BkR (w : World) (B : Nat) (F G H : Nat → Nat) (k : Nat) (wr : World) : Prop where
  row : Blk wr w.heap.size 41 (rowA .u32 F 16 16)
  res : Blk wr (w.heap.size + 1) 39 (rowA .u8 H 64 k)
  mix : Blk wr B 41 (rowA .u32 G 16 16)
  bel : Below w.heap.size w wr
  lt : w.heap.size + 1 < B
theorem BkR.step {w wr : World} {B : Nat} {F G H : Nat → Nat} {k v : Nat} (R : BkR w B F G H k wr) (hv : v = H k) : BkR w B F G H (k + 1) (wr.setCell ⟨w.heap.size + 1, k, none⟩ (.int .u8 v)) :=
  ⟨R.row.far (by show _ ≠ w.heap.size + 1; omega) _, by have := R.res.set_ k (.int .u8 v); rwa [rowA_set _ _ _ _ _ (by rw [hv])] at this, R.mix.far (by show _ ≠ w.heap.size + 1; have := R.lt; omega) _, R.bel.setCell (by show w.heap.size ≤ w.heap.size + 1; omega) _, R.lt⟩
theorem BkR.drewN {w wr : World} {B : Nat} {F G H : Nat → Nat} {k : Nat} (R : BkR w B F G H k wr) (n : Nat) : BkR w B F G H k (wr.drewN n) := ⟨R.row.drewN n, R.res.drewN n, R.mix.drewN n, below_drewN R.bel n, R.lt⟩
theorem bk_start {w w2 : World} {F G H : Nat → Nat} (hb : Below ((w.alloc (.cells (rowA .u32 F 16 16) 41)).alloc (.cells (rowA .u8 (fun _ => 0) 64 0) 39)).heap.size ((w.alloc (.cells (rowA .u32 F 16 16) 41)).alloc (.cells (rowA .u8 (fun _ => 0) 64 0) 39)) w2) :
    BkR w w2.heap.size F G H 0 ((w2.alloc (.cells (rowA .u32 (fun _ => 0) 16 0) 41)).setRow w2.heap.size (rowA .u32 G 16 16)) := by
  have hs := hb.size
  rw [World.size_alloc, World.size_alloc] at hs
  have h1 := Blk.new (w.alloc (.cells (rowA .u32 F 16 16) 41)) 39 (rowA .u8 (fun _ => 0) 64 0)
  rw [World.size_alloc] at h1
  have h0 := (Blk.new w 41 (rowA .u32 F 16 16)).alloc (.cells (rowA .u8 (fun _ => 0) 64 0) 39)
  refine ⟨(setRow_other _ _ _ _ (by omega)).trans ((h0.below hb (by simp only [World.size_alloc]; omega)).alloc _), ?_, setRow_heap _ _ _ _ _ _ (Blk.new w2 _ _), ?_, by omega⟩
  · rw [rowA_zero _ H (fun _ => 0)]
    exact (setRow_other _ _ _ _ (by omega)).trans ((h1.below hb (by simp only [World.size_alloc]; omega)).alloc _)
  · refine below_setRow (Below.alloc ?_ (by omega) _) (by omega) _
    exact (((Below.refl _ w).alloc (Nat.le_refl _) _).alloc (by simp) _).trans (hb.mono (by simp only [World.size_alloc]; omega))
set_option maxRecDepth 100000 in
set_option maxHeartbeats 1000000 in
theorem block_any (xs : List Nat) (hx : Cc.Ok xs) (w : World) :
    Calls Try.prog 25 #[.agg (rowA .u32 (fun k => xs.getD k 0) 16 16)] w fun e w' => e = .returned (.agg (rowA .u8 (fun k => (Cc.block xs).getD k 0) 64 64)) ∧ Below w.heap.size w w' := by
  obtain ⟨F, hF⟩ : ∃ F : Nat → Nat, Hid ((fun k => xs.getD k 0) = F) := ⟨_, rfl⟩
  obtain ⟨G, hG⟩ : ∃ G : Nat → Nat, Hid ((fun k => (Cc.rn xs 10).getD k 0) = G) := ⟨_, rfl⟩
  obtain ⟨H, hH⟩ : ∃ H : Nat → Nat, Hid ((fun k => (Cc.block xs).getD k 0) = H) := ⟨_, rfl⟩
  have hm := fun W => mixed_any xs hx W
  rw [hF.out, hG.out] at hm
  rw [hF.out, hH.out]
  have hFl : ∀ i, F i < 4294967296 := fun i => by rw [← hF.out]; exact hx.lt i
  have hGl : ∀ i, G i < 4294967296 := fun i => by rw [← hG.out]; exact (Cc.rn_ok hx 10).lt i
  have hHv : Hid (∀ i, i < 64 → H i = Cc.byt (Cc.add (G (i / 4)) (F (i / 4))) (i % 4)) := fun i hi => by rw [← hH.out, ← hG.out, ← hF.out]; exact Cc.block_get xs i hi
  clear hF hG hH hx
  have hz := zeroSt
  have hz2 := zero64
  have hB0 := hidIt (((Blk.new w 41 (rowA .u32 F 16 16)).alloc (.cells (rowA .u8 (fun _ => 0) 64 0) 39)))
  go_enter Try.func25, Try.ntmps25
  go_wp2_with (refine wpList_load_row rfl 41 _ rfl w.heap.size rfl 41 (rowA .u32 F 16 16) (0, 0) _ hB0.out Try.underlying41 rfl infoSt ?_)
  refine (hm _).mono ?_
  rintro e w2 ⟨rfl, hb2⟩
  have R0 := hidIt (bk_start (G := G) (H := H) hb2)
  have hN := hidIt (Blk.new w2 41 (rowA .u32 (fun _ => 0) 16 0))
  clear hB0 hb2 hm
  go_wp2_with (refine wpList_store_row rfl 41 _ _ rfl w2.heap.size (rowA .u32 G 16 16) rfl rfl 41 (rowA .u32 (fun _ => 0) 16 0) hN.out infoSt ?c1 (rowA_one _ _ _ _) ?_)
  case c1 => rw [rowA_size, rowA_size]
  clear hN hz hz2
  generalize (w2.alloc (.cells (rowA .u32 (fun _ => 0) 16 0) 41)).setRow w2.heap.size (rowA .u32 G 16 16) = w3 at *
  generalize w2.heap.size = B at *
  go_loopw [8, 4, 5] (fun i _ _ wr => ∃ k : Nat, k ≤ 64 ∧ i = .int .i64 k ∧ Hid (BkR w B F G H k wr)) (fun i _ _ _ => 64 - (intOf i).toNat)
  case atStart => exact ⟨0, by omega, rfl, R0⟩
  case round =>
    obtain ⟨k, hk, rfl, R⟩ := hrel
    by_cases hlt : k < 64
    · obtain ⟨j, r, hkj, hr⟩ : ∃ j r, k = 4 * j + r ∧ r < 4 := ⟨k / 4, k % 4, by omega, by omega⟩
      have hv := hidIt (hHv.out k hlt)
      rw [show k / 4 = j by omega, show k % 4 = r by omega] at hv
      obtain ⟨x, hx⟩ : ∃ x, Hid (F j = x) := ⟨_, rfl⟩
      obtain ⟨y, hy⟩ : ∃ y, Hid (G j = y) := ⟨_, rfl⟩
      have c1 := R.out.row.cell j
      have c2 := R.out.mix.cell j
      rw [rowA_all _ _ _ _ (by omega), hx.out] at c1
      rw [rowA_all _ _ _ _ (by omega), hy.out] at c2
      obtain ⟨z, hz, lz, ez⟩ := plus_int y x
      rw [hx.out, hy.out, ← ez.out] at hv
      have d := R.out.res.cell k
      rw [rowA_at _ _ _ _ hlt] at d
      have fz := R.out.res.frozen k
      have q1 : (k : Int) / 4 = (j : Int) := by omega
      have q2 : (k : Int) % 4 = (r : Int) := by omega
      have z1 : (j : Int) < 16 := by omega
      have z2 : (0 : Int) ≤ (k : Int) := by omega
      have z3 : (0 : Int) ≤ (j : Int) := by omega
      have z4 : (k : Int) < 64 := by omega
      have v1 : IntKind.i64.wrap (j : Int) = (j : Int) := IntWalk.i64_in _ (by omega)
      have v2 : IntKind.i64.wrap (k : Int) = (k : Int) := IntWalk.i64_in _ (by omega)
      clear hkj hFl hGl ez hx hy
      go_wp2_with (fail)
      go_quiet (fail)
      obtain ⟨wq, hwq, Rq, d, fz⟩ : ∃ wq, Hid (wr.drewN nq = wq) ∧ Hid (BkR w B F G H k wq) ∧ wq.cell? ⟨w.heap.size + 1, k, none⟩ = some (.int .u8 0) ∧ wq.frozen? ⟨w.heap.size + 1, k, none⟩ = false := ⟨_, rfl, R.out.drewN _, d, fz⟩
      rw [hwq.out]
      clear c1 c2 R hwq
      match r, hr with
      | 0, _ =>
        have q3 : Int.tmod (k : Int) 4 = 0 := by rw [Int.tmod_eq_emod_of_nonneg (by omega)]; exact q2
        have f2 : IntKind.i64.wrap 0 = 0 := rfl
        obtain ⟨b, hb, f1⟩ : ∃ b : Nat, Hid (b = Cc.byt z 0) ∧ IntKind.u8.wrap (z : Int) = (b : Int) := ⟨_, rfl, by rw [IntKind.wrap_u8]; show _ = ((z / 1 % 256 : Nat) : Int); omega⟩
        clear q2
        go_wp2_with (fail)
        go_roundw
        case rel => exact ⟨k + 1, by omega, by go_num, Rq.out.step (by rw [hb.out, hv.out])⟩
        case measure => simp [intOf]; omega
      | 1, _ =>
        have q3 : Int.tmod (k : Int) 4 = 1 := by rw [Int.tmod_eq_emod_of_nonneg (by omega)]; exact q2
        have f2 : IntKind.i64.wrap 8 = 8 := rfl
        obtain ⟨b, hb, f1⟩ : ∃ b : Nat, Hid (b = Cc.byt z 1) ∧ IntKind.u8.wrap ((z : Int) / 256) = (b : Int) := ⟨_, rfl, by rw [IntKind.wrap_u8]; show _ = ((z / 256 % 256 : Nat) : Int); omega⟩
        clear q2
        go_wp2_with (fail)
        go_roundw
        case rel => exact ⟨k + 1, by omega, by go_num, Rq.out.step (by rw [hb.out, hv.out])⟩
        case measure => simp [intOf]; omega
      | 2, _ =>
        have q3 : Int.tmod (k : Int) 4 = 2 := by rw [Int.tmod_eq_emod_of_nonneg (by omega)]; exact q2
        have f2 : IntKind.i64.wrap 16 = 16 := rfl
        obtain ⟨b, hb, f1⟩ : ∃ b : Nat, Hid (b = Cc.byt z 2) ∧ IntKind.u8.wrap ((z : Int) / 65536) = (b : Int) := ⟨_, rfl, by rw [IntKind.wrap_u8]; show _ = ((z / 65536 % 256 : Nat) : Int); omega⟩
        clear q2
        go_wp2_with (fail)
        go_roundw
        case rel => exact ⟨k + 1, by omega, by go_num, Rq.out.step (by rw [hb.out, hv.out])⟩
        case measure => simp [intOf]; omega
      | 3, _ =>
        have q3 : Int.tmod (k : Int) 4 = 3 := by rw [Int.tmod_eq_emod_of_nonneg (by omega)]; exact q2
        have f2 : IntKind.i64.wrap 24 = 24 := rfl
        obtain ⟨b, hb, f1⟩ : ∃ b : Nat, Hid (b = Cc.byt z 3) ∧ IntKind.u8.wrap ((z : Int) / 16777216) = (b : Int) := ⟨_, rfl, by rw [IntKind.wrap_u8]; show _ = ((z / 16777216 % 256 : Nat) : Int); omega⟩
        clear q2
        go_wp2_with (fail)
        go_roundw
        case rel => exact ⟨k + 1, by omega, by go_num, Rq.out.step (by rw [hb.out, hv.out])⟩
        case measure => simp [intOf]; omega
    · obtain rfl : k = 64 := by omega
      have hB := hidIt R.out.res
      have hb := hidIt R.out.bel
      clear R R0 hlt
      go_wp2_with (first | (refine wpList_load_row rfl 39 _ rfl (w.heap.size + 1) rfl 39 (rowA .u8 H 64 64) (0, 0) _ hB.out Try.underlying39 rfl info64 ?_) | (refine wpList_store_row rfl 39 _ _ rfl (w.heap.size + 1) (rowA .u8 H 64 64) rfl rfl 39 (rowA .u8 H 64 64) hB.out info64 rfl (rowA_one _ _ _ _) ?_))
      exact bodyPost_ret (v := .agg (rowA .u8 H 64 64)) (results_cell_row (g := w.heap.size + 1) Try.results25 _ _ _ _ _ _ rfl (setRow_heap _ _ _ _ _ _ hB.out) Try.underlying39 rfl info64) rfl ⟨rfl, below_setRow hb.out (by omega) _⟩
end Go.Proofs.Ytnkemflpenlmgaa
