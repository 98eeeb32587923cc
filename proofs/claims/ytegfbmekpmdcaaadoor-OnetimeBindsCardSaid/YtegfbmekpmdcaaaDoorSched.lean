import Derived.Test.YtegfbmekpmdcaaaDoorRot
import Derived.Test.YtegfbmekpmdcaaaDoorRowA
namespace Go.Proofs.YtegfbmekpmdcaaaDoor
open Go.RowKit
theorem zero64w (w : World) : (zeroValue 104).run Tryd.prog w = .ok (.agg (rowA .u32 (fun _ => 0) 64 0)) w := by kernel_rfl
theorem info64w {m : Nat → Nat} : (Tryd.prog.info? 104).map (·.size) = some (rowA .u32 (Sh.W m) 64 64).size := by rw [rowA_size]; kernel_rfl
theorem byte_w {x : Nat} (h : x < 256) : IntKind.u32.wrap (x : Int) = (x : Int) := by rw [IntKind.wrap_u32]; omega
theorem byte_s {x : Nat} (h : x < 256) (n : Nat) (hn : n ≤ 16777216) : IntKind.u32.wrap ((x : Int) * (n : Int)) = (x : Int) * (n : Int) := by
  have h1 : x * n ≤ 255 * 16777216 := Nat.mul_le_mul (by omega) hn
  have h2 : (x : Int) * (n : Int) = ((x * n : Nat) : Int) := by rw [Int.natCast_mul]
  rw [IntKind.wrap_u32, h2]; omega
theorem word_int {a b c d : Nat} (ha : a < 256) (hb : b < 256) (hc : c < 256) (hd : d < 256) :
    bits BinOp.or IntKind.u32 (bits BinOp.or IntKind.u32 (bits BinOp.or IntKind.u32 ((a : Int) * 16777216) ((b : Int) * 65536)) ((c : Int) * 256)) (d : Int) = ((((a * 16777216 ||| b * 65536) ||| c * 256) ||| d : Nat) : Int) := by
  rw [show (a : Int) * 16777216 = ((a * 16777216 : Nat) : Int) by omega, show (b : Int) * 65536 = ((b * 65536 : Nat) : Int) by omega, show (c : Int) * 256 = ((c * 256 : Nat) : Int) by omega,
    u32_or_nat _ _ (by omega) (by omega), u32_or_nat _ _ (Sh.or_lt (by omega) (by omega)) (by omega), u32_or_nat _ _ (Sh.or_lt (Sh.or_lt (by omega) (by omega)) (by omega)) (by omega)]
theorem add_int (a b : Nat) : IntKind.u32.wrap ((a : Int) + (b : Int)) = ((Sh.add a b : Nat) : Int) := by
  unfold Sh.add; rw [IntKind.wrap_u32]; omega
theorem sg0_int {x : Nat} (h : x < 4294967296) : bits BinOp.xor IntKind.u32 (bits BinOp.xor IntKind.u32 (Sh.rr x 7 : Int) (Sh.rr x 18 : Int)) ((x : Int) / 8) = ((Sh.sg0 x : Nat) : Int) := by
  rw [show (x : Int) / 8 = ((x / 8 : Nat) : Int) by omega, u32_xor_nat _ _ (Sh.rr_lt _ h) (Sh.rr_lt _ h), u32_xor_nat _ _ (Sh.xor_lt (Sh.rr_lt _ h) (Sh.rr_lt _ h)) (by omega)]
  rfl
theorem sg1_int {x : Nat} (h : x < 4294967296) : bits BinOp.xor IntKind.u32 (bits BinOp.xor IntKind.u32 (Sh.rr x 17 : Int) (Sh.rr x 19 : Int)) ((x : Int) / 1024) = ((Sh.sg1 x : Nat) : Int) := by
  rw [show (x : Int) / 1024 = ((x / 1024 : Nat) : Int) by omega, u32_xor_nat _ _ (Sh.rr_lt _ h) (Sh.rr_lt _ h), u32_xor_nat _ _ (Sh.xor_lt (Sh.rr_lt _ h) (Sh.rr_lt _ h)) (by omega)]
  rfl
/-- the state in the loops of schedule -/
structure ScR (w : World) (f : Nat → Nat) (wr : World) (k : Nat) : Prop where
  row : Blk wr w.heap.size 104 (rowA .u32 f 64 k)
  bel : Below w.heap.size w wr
theorem ScR.start (w : World) (f g : Nat → Nat) : ScR w f (w.alloc (.cells (rowA .u32 g 64 0) 104)) 0 :=
  ⟨by rw [rowA_zero _ g f]; exact Blk.new _ _ _, (Below.refl _ _).alloc (Nat.le_refl _) _⟩
theorem ScR.step {w wr : World} {f : Nat → Nat} {k m : Nat} {v : Int} (h : ScR w f wr k) (hv : v = (f k : Int)) : ScR w f ((wr.setCell ⟨w.heap.size, k, none⟩ (.int .u32 v)).drewN m) (k + 1) :=
  ⟨by have := (h.row.set_ k (.int .u32 v)).drewN m; rwa [rowA_set _ _ _ _ _ hv] at this, below_drewN (h.bel.setCell (by simp) _) _⟩
set_option maxRecDepth 100000 in
set_option maxHeartbeats 2000000 in
theorem sched_any (b off cap : Nat) (m : Nat → Nat) (hc : 64 ≤ cap) (hm : ∀ i, m i < 256) (w : World) (h : ∀ i, i < 64 → w.cell? ⟨b, off + i, none⟩ = some (.int .u8 (m i))) :
    Calls Tryd.prog 85 #[.slice (some ⟨b, off, none⟩) 64 cap] w fun e w' => e = .returned (.agg (rowA .u32 (Sh.W m) 64 64)) ∧ Below w.heap.size w w' := by
  have hz := zero64w
  go_enter Tryd.func85, Tryd.ntmps85
  go_wp2
  go_loopw [10, 3, 4] (fun i _ _ wr => ∃ k : Nat, k ≤ 16 ∧ i = .int .i64 k ∧ ScR w (Sh.W m) wr k) (fun i _ _ _ => 16 - (intOf i).toNat)
  case atStart => exact ⟨0, by omega, rfl, ScR.start _ _ _⟩
  case round =>
    obtain ⟨k, hk, rfl, R⟩ := hrel
    by_cases hlt : k < 16
    · have hl : 4 * k + 4 - 4 * k = 4 := by omega
      have c0 : wr.cell? ⟨b, off + 4 * k, none⟩ = some (.int .u8 (m (4 * k))) := by
        have := h (4 * k + 0) (by omega)
        exact (R.bel.cell (p := ⟨b, off + (4 * k + 0), none⟩) (bytes_lt this)).trans this
      have c1 : wr.cell? ⟨b, off + 4 * k + 1, none⟩ = some (.int .u8 (m (4 * k + 1))) := by
        have := h (4 * k + 1) (by omega)
        exact (R.bel.cell (p := ⟨b, off + (4 * k + 1), none⟩) (bytes_lt this)).trans this
      have c2 : wr.cell? ⟨b, off + 4 * k + 2, none⟩ = some (.int .u8 (m (4 * k + 2))) := by
        have := h (4 * k + 2) (by omega)
        exact (R.bel.cell (p := ⟨b, off + (4 * k + 2), none⟩) (bytes_lt this)).trans this
      have c3 : wr.cell? ⟨b, off + 4 * k + 3, none⟩ = some (.int .u8 (m (4 * k + 3))) := by
        have := h (4 * k + 3) (by omega)
        exact (R.bel.cell (p := ⟨b, off + (4 * k + 3), none⟩) (bytes_lt this)).trans this
      have d := R.row.cell k
      rw [rowA_at _ _ _ _ (by omega)] at d
      have fz := R.row.frozen k
      have b0 := hm (4 * k)
      have b1 := hm (4 * k + 1)
      have b2 := hm (4 * k + 2)
      have b3 := hm (4 * k + 3)
      have z1 : (k : Int) < 64 := by omega
      have z2 : (0 : Int) ≤ (k : Int) := by omega
      have e0 := byte_w b0
      have e1 := byte_w b1
      have e2 := byte_w b2
      have e3 := byte_w b3
      have f0 : IntKind.u32.wrap ((m (4 * k) : Int) * 16777216) = (m (4 * k) : Int) * 16777216 := byte_s b0 16777216 (by decide)
      have f1 : IntKind.u32.wrap ((m (4 * k + 1) : Int) * 65536) = (m (4 * k + 1) : Int) * 65536 := byte_s b1 65536 (by decide)
      have f2 : IntKind.u32.wrap ((m (4 * k + 2) : Int) * 256) = (m (4 * k + 2) : Int) * 256 := byte_s b2 256 (by decide)
      have hw := hidIt (word_int b0 b1 b2 b3)
      clear h hm
      go_wp2
      go_still_tail 24, (by kernel_rfl)
      repeat still_step
      change wpList _ _ _ _ _ wr.drew
      go_wp2
      go_roundw
      case rel => exact ⟨k + 1, by omega, by go_num, R.step (m := 1) (by rw [hw.out, Sh.W_lo _ _ hlt]; rfl)⟩
      case measure => simp [intOf]; omega
    · have R16 : ScR w (Sh.W m) wr 16 := (show k = 16 by omega) ▸ R
      clear h R
      go_wp2
      go_loopw [5, 6, 7, 8, 9] (fun i _ _ _ _ wr => ∃ k : Nat, 16 ≤ k ∧ k ≤ 64 ∧ i = .int .i64 k ∧ ScR w (Sh.W m) wr k) (fun i _ _ _ _ _ => 64 - (intOf i).toNat)
      case atStart => exact ⟨16, by omega, by omega, rfl, R16⟩
      case round =>
        obtain ⟨k, hk1, hk2, rfl, R⟩ := hrel
        clear R16
        by_cases hlt : k < 64
        · obtain ⟨j2, q2⟩ : ∃ j, j = k - 2 := ⟨_, rfl⟩
          obtain ⟨j7, q7⟩ : ∃ j, j = k - 7 := ⟨_, rfl⟩
          obtain ⟨j15, q15⟩ : ∃ j, j = k - 15 := ⟨_, rfl⟩
          obtain ⟨j16, q16⟩ : ∃ j, j = k - 16 := ⟨_, rfl⟩
          have hw := hidIt (Sh.W_hi m k hk1 hlt)
          rw [← q2, ← q7, ← q15, ← q16] at hw
          have c2 := R.row.cell j2
          have c7 := R.row.cell j7
          have c15 := R.row.cell j15
          have c16 := R.row.cell j16
          rw [rowA_lo _ _ _ _ _ (by omega) (by omega)] at c2 c7 c15 c16
          have d := R.row.cell k
          rw [rowA_at _ _ _ _ (by omega)] at d
          have fz := R.row.frozen k
          have l2 := Sh.W_lt hm j2 (by omega)
          have l7 := Sh.W_lt hm j7 (by omega)
          have l15 := Sh.W_lt hm j15 (by omega)
          have l16 := Sh.W_lt hm j16 (by omega)
          have i2 : (k : Int) - 2 = (j2 : Int) := by omega
          have i7 : (k : Int) - 7 = (j7 : Int) := by omega
          have i15 : (k : Int) - 15 = (j15 : Int) := by omega
          have i16 : (k : Int) - 16 = (j16 : Int) := by omega
          have v7 : IntKind.i64.wrap (j7 : Int) = (j7 : Int) := IntWalk.i64_in _ (by omega)
          have v16 : IntKind.i64.wrap (j16 : Int) = (j16 : Int) := IntWalk.i64_in _ (by omega)
          have z0 : (0 : Int) ≤ (k : Int) := by omega
          have z1 : (k : Int) < 64 := by omega
          have n7 : (0 : Int) ≤ (j7 : Int) := by omega
          have n16 : (0 : Int) ≤ (j16 : Int) := by omega
          have y2 : (j2 : Int) < 64 := by omega
          have y7 : (j7 : Int) < 64 := by omega
          have y15 : (j15 : Int) < 64 := by omega
          have y16 : (j16 : Int) < 64 := by omega
          clear q2 q7 q15 q16 hm
          generalize hx2 : Sh.W m j2 = x2 at *
          generalize hx7 : Sh.W m j7 = x7 at *
          generalize hx15 : Sh.W m j15 = x15 at *
          generalize hx16 : Sh.W m j16 = x16 at *
          clear hx2 hx7 hx15 hx16
          have s0 := sg0_int l15
          have s1 := sg1_int l2
          have a1 := add_int (Sh.sg1 x2) x7
          have a2 := add_int (Sh.add (Sh.sg1 x2) x7) (Sh.sg0 x15)
          have a3 := add_int (Sh.add (Sh.add (Sh.sg1 x2) x7) (Sh.sg0 x15)) x16
          go_wp2
          go_quiet (fail)
          go_wp2_with (fail)
          refine (rot_any _ 7 _ rfl l15 (by decide) (by decide) _).mono ?_
          rintro e w' ⟨rfl, rfl⟩
          go_wp2_with (fail)
          refine (rot_any _ 18 _ rfl l15 (by decide) (by decide) _).mono ?_
          rintro e w' ⟨rfl, rfl⟩
          go_wp2_with (fail)
          refine (rot_any _ 17 _ rfl l2 (by decide) (by decide) _).mono ?_
          rintro e w' ⟨rfl, rfl⟩
          go_wp2_with (fail)
          refine (rot_any _ 19 _ rfl l2 (by decide) (by decide) _).mono ?_
          rintro e w' ⟨rfl, rfl⟩
          go_wp2_with (fail)
          obtain ⟨wq, hq, k7, k16, kd, kf⟩ : ∃ wq, Hid (wr.drewN nq = wq) ∧ wq.cell? ⟨w.heap.size, j7, none⟩ = some (.int .u32 x7) ∧ wq.cell? ⟨w.heap.size, j16, none⟩ = some (.int .u32 x16) ∧ wq.cell? ⟨w.heap.size, k, none⟩ = some (.int .u32 0) ∧ wq.frozen? ⟨w.heap.size, k, none⟩ = false := ⟨_, rfl, c7, c16, d, fz⟩
          rw [hq.out]
          go_still_tail 15, (by kernel_rfl)
          repeat still_step
          change wpList _ _ _ _ _ wq.drew
          go_wp2
          go_roundw
          case rel => exact ⟨k + 1, by omega, by omega, by go_num, by rw [← hq.out]; exact R.step (m := nq + 1) (by rw [hw.out])⟩
          case measure => simp [intOf]; omega
        · obtain rfl : k = 64 := by omega
          go_wp2_with (first | (refine wpList_load_row rfl 104 _ rfl w.heap.size rfl 104 (rowA .u32 (Sh.W m) 64 64) (0, 0) _ R.row Tryd.underlying104 rfl info64w ?_) | (refine wpList_store_row rfl 104 _ _ rfl w.heap.size (rowA .u32 (Sh.W m) 64 64) rfl rfl 104 (rowA .u32 (Sh.W m) 64 64) R.row info64w rfl (rowA_one _ _ _ _) ?_))
          rw [setRow_self _ _ _ 104 (0, 0) R.row]
          exact bodyPost_ret (v := .agg (rowA .u32 (Sh.W m) 64 64)) (results_cell_row (g := w.heap.size) Tryd.results85 _ _ _ _ _ _ rfl R.row Tryd.underlying104 rfl info64w) rfl ⟨rfl, R.bel⟩
end Go.Proofs.YtegfbmekpmdcaaaDoor
