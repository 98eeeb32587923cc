import Derived.Test.YtegfbmekpmdcaaaDoorRefBlk
import Derived.Test.YtegfbmekpmdcaaaDoorBytes
namespace Go.Proofs.YtegfbmekpmdcaaaDoor
open Go.RowKit
theorem info64z : (Tryd.prog.info? 104).map (·.size) = some (rowA .u32 (fun _ => 0) 64 0).size := by rw [rowA_size]; kernel_rfl
/-- the blocks of the reference's Block -/
structure RB (w : World) (Bk Bw : Nat) (s : Sh.St) (f : Nat → Nat) (wr : World) (k : Nat) : Prop where
  h : Blk wr w.heap.size 85 (stA s)
  r : Blk wr (w.heap.size + 1) 85 Z8
  kk : Blk wr Bk 104 (rowA .u32 Sh.k 64 64)
  ww : Blk wr Bw 104 (rowA .u32 f 64 k)
  bel : Below w.heap.size w wr
  l1 : w.heap.size + 1 < Bk
  l2 : Bk < Bw
theorem RB.drewN {w wr : World} {Bk Bw : Nat} {s : Sh.St} {f : Nat → Nat} {k : Nat} (h : RB w Bk Bw s f wr k) (n : Nat) : RB w Bk Bw s f (wr.drewN n) k :=
  ⟨h.h, h.r, h.kk, h.ww, below_drewN h.bel n, h.l1, h.l2⟩
theorem RB.step {w wr : World} {Bk Bw : Nat} {s : Sh.St} {f : Nat → Nat} {k m : Nat} {v : Int} (h : RB w Bk Bw s f wr k) (hv : v = (f k : Int)) : RB w Bk Bw s f ((wr.setCell ⟨Bw, k, none⟩ (.int .u32 v)).drewN m) (k + 1) := by
  have h1 := h.l1
  have h2 := h.l2
  refine RB.drewN ⟨h.h.far (by show _ ≠ Bw; omega) _, h.r.far (by show _ ≠ Bw; omega) _, h.kk.far (by show _ ≠ Bw; omega) _, ?_, h.bel.setCell (by show _ ≤ Bw; omega) _, h1, h2⟩ m
  have := h.ww.set_ k (.int .u32 v)
  rwa [rowA_set _ _ _ _ _ hv] at this
theorem RB.start (w w1 : World) (s : Sh.St) (f g : Nat → Nat) (hb1 : Below ((w.alloc (.cells (stA s) 85)).alloc (.cells Z8 85)).heap.size ((w.alloc (.cells (stA s) 85)).alloc (.cells Z8 85)) w1) :
    RB w w1.heap.size (w1.heap.size + 1) s f ((((w1.alloc (.cells (rowA .u32 (fun _ => 0) 64 0) 104)).setRow w1.heap.size (rowA .u32 Sh.k 64 64)).alloc (.cells (rowA .u32 g 64 0) 104))) 0 := by
  have hs : w.heap.size + 2 ≤ w1.heap.size := by have := hb1.size; simpa using this
  have e0 : Blk ((w.alloc (.cells (stA s) 85)).alloc (.cells Z8 85)) w.heap.size 85 (stA s) := (Blk.new w _ _).alloc _
  have e1 : Blk ((w.alloc (.cells (stA s) 85)).alloc (.cells Z8 85)) (w.heap.size + 1) 85 Z8 := by
    have := Blk.new (w.alloc (.cells (stA s) 85)) 85 Z8
    rwa [World.size_alloc] at this
  have hz : ((w1.alloc (.cells (rowA .u32 (fun _ => 0) 64 0) 104)).setRow w1.heap.size (rowA .u32 Sh.k 64 64)).heap.size = w1.heap.size + 1 := by simp
  have far : ∀ g' cs, g' < w1.heap.size → Blk w1 g' 85 cs → Blk (((w1.alloc (.cells (rowA .u32 (fun _ => 0) 64 0) 104)).setRow w1.heap.size (rowA .u32 Sh.k 64 64)).alloc (.cells (rowA .u32 g 64 0) 104)) g' 85 cs := fun g' cs hg hB => Blk.alloc ((setRow_other _ _ g' _ (by omega)).trans (hB.alloc _)) _
  refine ⟨far _ _ (by omega) (e0.below hb1 (by simp only [World.size_alloc]; omega)), far _ _ (by omega) (e1.below hb1 (by simp only [World.size_alloc]; omega)), ?_, ?_, ?_, by omega, by omega⟩
  · exact Blk.alloc (setRow_heap _ _ _ _ _ _ (Blk.new w1 _ _)) _
  · rw [rowA_zero _ f g]
    have := Blk.new ((w1.alloc (.cells (rowA .u32 (fun _ => 0) 64 0) 104)).setRow w1.heap.size (rowA .u32 Sh.k 64 64)) 104 (rowA .u32 g 64 0)
    rwa [hz] at this
  · have h1 : Below w.heap.size w w1 := (((Below.refl _ _).alloc (Nat.le_refl _) _).alloc (by simp) _).trans (hb1.mono (by simp; try omega))
    exact (below_setRow (h1.alloc (by omega) _) (by omega) _).alloc (by rw [hz]; omega) _
/-- the same, with the words that the rounds change -/
structure RV (w : World) (Bk Bw Bv : Nat) (s : Sh.St) (m : Nat → Nat) (f : Nat → Nat) (wr : World) : Prop where
  h : Blk wr w.heap.size 85 (stA s)
  r : Blk wr (w.heap.size + 1) 85 Z8
  kk : Blk wr Bk 104 (rowA .u32 Sh.k 64 64)
  ww : Blk wr Bw 104 (rowA .u32 (Sh.W m) 64 64)
  v : Blk wr Bv 85 (rowA .u32 f 8 8)
  bel : Below w.heap.size w wr
  l1 : w.heap.size + 1 < Bk
  l2 : Bk < Bw
  l3 : Bw < Bv
theorem RV.drewN {w wr : World} {Bk Bw Bv : Nat} {s : Sh.St} {m f : Nat → Nat} (h : RV w Bk Bw Bv s m f wr) (n : Nat) : RV w Bk Bw Bv s m f (wr.drewN n) :=
  ⟨h.h, h.r, h.kk, h.ww, h.v, below_drewN h.bel n, h.l1, h.l2, h.l3⟩
theorem RV.row {w wr : World} {Bk Bw Bv : Nat} {s : Sh.St} {m f : Nat → Nat} (h : RV w Bk Bw Bv s m f wr) (g : Nat → Nat) : RV w Bk Bw Bv s m g (wr.setRow Bv (rowA .u32 g 8 8)) := by
  have h1 := h.l1
  have h2 := h.l2
  have h3 := h.l3
  exact ⟨(setRow_other _ _ _ _ (by omega)).trans h.h, (setRow_other _ _ _ _ (by omega)).trans h.r, (setRow_other _ _ _ _ (by omega)).trans h.kk, (setRow_other _ _ _ _ (by omega)).trans h.ww, setRow_heap _ _ _ _ _ _ h.v, below_setRow h.bel (by omega) _, h1, h2, h3⟩
theorem RV.cell {w wr : World} {Bk Bw Bv : Nat} {s : Sh.St} {m f : Nat → Nat} (h : RV w Bk Bw Bv s m f wr) (i v : Nat) : RV w Bk Bw Bv s m (fun j => if j = i then v else f j) (wr.setCell ⟨Bv, i, none⟩ (.int .u32 (v : Int))) := by
  have h1 := h.l1
  have h2 := h.l2
  have h3 := h.l3
  refine ⟨h.h.far (by show _ ≠ Bv; omega) _, h.r.far (by show _ ≠ Bv; omega) _, h.kk.far (by show _ ≠ Bv; omega) _, h.ww.far (by show _ ≠ Bv; omega) _, ?_, h.bel.setCell (by show _ ≤ Bv; omega) _, h1, h2, h3⟩
  have := h.v.set_ i (.int .u32 (v : Int))
  rwa [rowA_upd] at this
theorem RV.congr {w wr : World} {Bk Bw Bv : Nat} {s : Sh.St} {m f g : Nat → Nat} (h : RV w Bk Bw Bv s m f wr) (hfg : ∀ i, i < 8 → f i = g i) : RV w Bk Bw Bv s m g wr :=
  ⟨h.h, h.r, h.kk, h.ww, by rw [← rowA_congr hfg]; exact h.v, h.bel, h.l1, h.l2, h.l3⟩
theorem RV.start {w wr : World} {Bk Bw : Nat} {s : Sh.St} {m : Nat → Nat} (h : RB w Bk Bw s (Sh.W m) wr 64) : RV w Bk Bw wr.heap.size s m (wd s) (wr.alloc (.cells (stA s) 85)) := by
  have h3 := h.ww.lt
  refine ⟨h.h.alloc _, h.r.alloc _, h.kk.alloc _, h.ww.alloc _, ?_, h.bel.alloc h.bel.size _, h.l1, h.l2, h3⟩
  exact Blk.new wr _ (stA s)
theorem words8 {w : World} {g : Nat} {S : Sh.St} (h : Blk w g 85 (stA S)) :
    w.cell? ⟨g, 0, none⟩ = some (.int .u32 S.a) ∧ w.cell? ⟨g, 1, none⟩ = some (.int .u32 S.b) ∧ w.cell? ⟨g, 2, none⟩ = some (.int .u32 S.c) ∧ w.cell? ⟨g, 3, none⟩ = some (.int .u32 S.d) ∧ w.cell? ⟨g, 4, none⟩ = some (.int .u32 S.e) ∧ w.cell? ⟨g, 5, none⟩ = some (.int .u32 S.f) ∧ w.cell? ⟨g, 6, none⟩ = some (.int .u32 S.g) ∧ w.cell? ⟨g, 7, none⟩ = some (.int .u32 S.h) :=
  ⟨(h.cell 0).trans rfl, (h.cell 1).trans rfl, (h.cell 2).trans rfl, (h.cell 3).trans rfl, (h.cell 4).trans rfl, (h.cell 5).trans rfl, (h.cell 6).trans rfl, (h.cell 7).trans rfl⟩
theorem wd_row (S : Sh.St) : stA S = rowA .u32 (wd S) 8 8 := by rfl
/-- the words of the rounds, added to the words before in their first `i` places -/
def mix (S s : Sh.St) (i : Nat) : Nat → Nat := fun j => if j < i then Sh.add (wd S j) (wd s j) else wd S j
theorem mix_at (S s : Sh.St) (k : Nat) : mix S s k k = wd S k := by simp [mix]
theorem mix_step (S s : Sh.St) (k : Nat) : (fun j => if j = k then Sh.add (wd S k) (wd s k) else mix S s k j) = mix S s (k + 1) := by
  funext j
  simp only [mix]
  by_cases h : j = k
  · subst h; rw [if_pos rfl, if_pos (by omega)]
  · rw [if_neg h]
    by_cases h' : j < k
    · rw [if_pos h', if_pos (by omega)]
    · rw [if_neg h', if_neg (by omega)]
theorem mix_block (s : Sh.St) (m : Nat → Nat) (S : Sh.St) (h : Sh.rounds m s 64 = S) : rowA .u32 (mix S s 8) 8 8 = stA (Sh.block s m) := by
  have hc : ∀ a b, Sh.add a b = Sh.add b a := fun a b => by unfold Sh.add; rw [Nat.add_comm]
  unfold Sh.block
  rw [h]
  show _ = stA ⟨Sh.add s.a S.a, Sh.add s.b S.b, Sh.add s.c S.c, Sh.add s.d S.d, Sh.add s.e S.e, Sh.add s.f S.f, Sh.add s.g S.g, Sh.add s.h S.h⟩
  rw [hc s.a, hc s.b, hc s.c, hc s.d, hc s.e, hc s.f, hc s.g, hc s.h]
  rfl
set_option maxRecDepth 100000 in
set_option maxHeartbeats 4000000 in
theorem refblock_any (s : Sh.St) (hs : s.Ok) (b off cap : Nat) (m : Nat → Nat) (_hc : 64 ≤ cap) (hm : ∀ i, m i < 256) (w : World) (h : ∀ i, i < 64 → w.cell? ⟨b, off + i, none⟩ = some (.int .u8 (m i))) :
    Calls Tryd.prog 67 #[.agg (stA s), .slice (some ⟨b, off, none⟩) 64 cap] w fun e w' => e = .returned (.agg (stA (Sh.block s m))) ∧ Below w.heap.size w w' := by
  have hz := zero64w
  have hb64 : Tryd.prog.built 104 [] = some (rowA .u32 (fun _ => 0) 64 0) := by kernel_rfl
  go_enter Tryd.func67, Tryd.ntmps67
  go_wp2_with (fail)
  refine (const_any _).mono ?_
  rintro e w1 ⟨rfl, hb1⟩
  have R0 := hidIt (RB.start w w1 s (Sh.W m) (fun _ => 0) hb1)
  have hB0 := R0.out.ww
  rw [rowA_zero _ (Sh.W m) (fun _ => 0)] at hB0
  have hself := setRow_self _ _ _ _ _ hB0
  go_wp2_with (first | (refine wpList_store_row rfl 104 _ _ rfl w1.heap.size (rowA .u32 Sh.k 64 64) rfl rfl 104 (rowA .u32 (fun _ => 0) 64 0) (heap_alloc_new _ _) info64k ?c1 (rowA_one _ _ _ _) ?_) | (refine wpList_build_is rfl 104 _ rfl (rowA .u32 (fun _ => 0) 64 0) hb64 ?_) | (refine wpList_store_row rfl 104 _ _ rfl (w1.heap.size + 1) (rowA .u32 (fun _ => 0) 64 0) rfl rfl 104 (rowA .u32 (fun _ => 0) 64 0) hB0 info64z ?c2 (rowA_one _ _ _ _) ?_))
  case c1 => rw [rowA_size, rowA_size]
  case c2 => rfl
  generalize (((w1.alloc (.cells (rowA .u32 (fun _ => 0) 64 0) 104)).setRow w1.heap.size (rowA .u32 Sh.k 64 64)).alloc (.cells (rowA .u32 (fun _ => 0) 64 0) 104)) = w2 at *
  generalize hBk : w1.heap.size = Bk at *
  obtain ⟨Bw, hBw⟩ : ∃ Bw, Hid (Bk + 1 = Bw) := ⟨_, rfl⟩
  rw [hBw.out] at R0 ⊢
  have R1 := R0.out
  clear hB0 hself hBk hb1 hb64 hBw hz
  go_wp2
  go_loopw [7] (fun i wr => ∃ k : Nat, k ≤ 16 ∧ i = .int .i64 k ∧ RB w Bk Bw s (Sh.W m) wr k) (fun i _ => 16 - (intOf i).toNat)
  case atStart => exact ⟨0, by omega, rfl, R1⟩
  case round =>
    obtain ⟨k, hk, rfl, R⟩ := hrel
    clear R0 R1
    by_cases hlt : k < 16
    · obtain ⟨j0, q0⟩ : ∃ j, j = 4 * k := ⟨_, rfl⟩
      obtain ⟨j1, q1⟩ : ∃ j, j = 4 * k + 1 := ⟨_, rfl⟩
      obtain ⟨j2, q2⟩ : ∃ j, j = 4 * k + 2 := ⟨_, rfl⟩
      obtain ⟨j3, q3⟩ : ∃ j, j = 4 * k + 3 := ⟨_, rfl⟩
      have g0 : 4 * (k : Int) = (j0 : Int) := by omega
      have g1 : (j0 : Int) + 1 = (j1 : Int) := by omega
      have g2 : (j0 : Int) + 2 = (j2 : Int) := by omega
      have g3 : (j0 : Int) + 3 = (j3 : Int) := by omega
      have u0 : IntKind.i64.wrap (j0 : Int) = (j0 : Int) := IntWalk.i64_in _ (by omega)
      have u1 : IntKind.i64.wrap (j1 : Int) = (j1 : Int) := IntWalk.i64_in _ (by omega)
      have u2' : IntKind.i64.wrap (j2 : Int) = (j2 : Int) := IntWalk.i64_in _ (by omega)
      have u3' : IntKind.i64.wrap (j3 : Int) = (j3 : Int) := IntWalk.i64_in _ (by omega)
      have c0 : wr.cell? ⟨b, off + j0, none⟩ = some (.int .u8 (m j0)) := (R.bel.cell (p := ⟨b, off + j0, none⟩) (bytes_lt (h j0 (by omega)))).trans (h j0 (by omega))
      have c1 : wr.cell? ⟨b, off + j1, none⟩ = some (.int .u8 (m j1)) := (R.bel.cell (p := ⟨b, off + j1, none⟩) (bytes_lt (h j1 (by omega)))).trans (h j1 (by omega))
      have c2 : wr.cell? ⟨b, off + j2, none⟩ = some (.int .u8 (m j2)) := (R.bel.cell (p := ⟨b, off + j2, none⟩) (bytes_lt (h j2 (by omega)))).trans (h j2 (by omega))
      have c3 : wr.cell? ⟨b, off + j3, none⟩ = some (.int .u8 (m j3)) := (R.bel.cell (p := ⟨b, off + j3, none⟩) (bytes_lt (h j3 (by omega)))).trans (h j3 (by omega))
      have d := R.ww.cell k
      rw [rowA_at _ _ _ _ (by omega)] at d
      have fz := R.ww.frozen k
      have b0 := hm j0
      have b1 := hm j1
      have b2 := hm j2
      have b3 := hm j3
      have z1 : (k : Int) < 64 := by omega
      have z2 : (0 : Int) ≤ (k : Int) := by omega
      have y0 : (j0 : Int) < 64 := by omega
      have y1 : (j1 : Int) < 64 := by omega
      have y2 : (j2 : Int) < 64 := by omega
      have y3 : (j3 : Int) < 64 := by omega
      have x0 : (0 : Int) ≤ (j0 : Int) := by omega
      have x1 : (0 : Int) ≤ (j1 : Int) := by omega
      have x2 : (0 : Int) ≤ (j2 : Int) := by omega
      have x3 : (0 : Int) ≤ (j3 : Int) := by omega
      have e0 := byte_w b0
      have e1 := byte_w b1
      have e2 := byte_w b2
      have e3 := byte_w b3
      have f0 : IntKind.u32.wrap ((m j0 : Int) * 16777216) = (m j0 : Int) * 16777216 := byte_s b0 16777216 (by decide)
      have f1 : IntKind.u32.wrap ((m j1 : Int) * 65536) = (m j1 : Int) * 65536 := byte_s b1 65536 (by decide)
      have f2 : IntKind.u32.wrap ((m j2 : Int) * 256) = (m j2 : Int) * 256 := byte_s b2 256 (by decide)
      have hw := hidIt (word_int b0 b1 b2 b3)
      have hw2 : Hid (bits BinOp.or IntKind.u32 (bits BinOp.or IntKind.u32 (bits BinOp.or IntKind.u32 ((m j0 : Int) * 16777216) ((m j1 : Int) * 65536)) ((m j2 : Int) * 256)) (m j3 : Int) = (Sh.W m k : Int)) := by
        show _ = _
        rw [hw.out, Sh.W_lo _ _ hlt, q0, q1, q2, q3]; rfl
      clear h hm q0 q1 q2 q3 hw
      go_wp2
      go_still_tail 35, (by kernel_rfl)
      repeat still_step
      change wpList _ _ _ _ _ wr.drew
      go_wp2
      go_roundw
      case rel => exact ⟨k + 1, by omega, by go_num, R.step (m := 1) hw2.out⟩
      case measure => simp [intOf]; omega
    · have R16 : RB w Bk Bw s (Sh.W m) wr 16 := (show k = 16 by omega) ▸ R
      clear R h
      go_wp2
      go_loopw [8, 9, 10] (fun i _ _ wr => ∃ k : Nat, 16 ≤ k ∧ k ≤ 64 ∧ i = .int .i64 k ∧ RB w Bk Bw s (Sh.W m) wr k) (fun i _ _ _ => 64 - (intOf i).toNat)
      case atStart => exact ⟨16, by omega, by omega, rfl, R16⟩
      case round =>
        obtain ⟨k, hk1, hk2, rfl, R⟩ := hrel
        clear R16
        by_cases hlt : k < 64
        · obtain ⟨j2, q2⟩ : ∃ j, j = k - 2 := ⟨_, rfl⟩
          obtain ⟨j7, q7⟩ : ∃ j, j = k - 7 := ⟨_, rfl⟩
          obtain ⟨j15, q15⟩ : ∃ j, j = k - 15 := ⟨_, rfl⟩
          obtain ⟨j16, q16⟩ : ∃ j, j = k - 16 := ⟨_, rfl⟩
          have hw := hidIt (Sh.W_hi m k hk1 hlt)
          rw [← q2, ← q7, ← q15, ← q16] at hw
          have c2 := R.ww.cell j2
          have c7 := R.ww.cell j7
          have c15 := R.ww.cell j15
          have c16 := R.ww.cell j16
          rw [rowA_lo _ _ _ _ _ (by omega) (by omega)] at c2 c7 c15 c16
          have d := R.ww.cell k
          rw [rowA_at _ _ _ _ (by omega)] at d
          have fz := R.ww.frozen k
          have l2 := Sh.W_lt hm j2 (by omega)
          have l7 := Sh.W_lt hm j7 (by omega)
          have l15 := Sh.W_lt hm j15 (by omega)
          have l16 := Sh.W_lt hm j16 (by omega)
          have i2 : (k : Int) - 2 = (j2 : Int) := by omega
          have i7 : (k : Int) - 7 = (j7 : Int) := by omega
          have i15 : (k : Int) - 15 = (j15 : Int) := by omega
          have i16 : (k : Int) - 16 = (j16 : Int) := by omega
          have v2 : IntKind.i64.wrap (j2 : Int) = (j2 : Int) := IntWalk.i64_in _ (by omega)
          have v15 : IntKind.i64.wrap (j15 : Int) = (j15 : Int) := IntWalk.i64_in _ (by omega)
          have v7 : IntKind.i64.wrap (j7 : Int) = (j7 : Int) := IntWalk.i64_in _ (by omega)
          have v16 : IntKind.i64.wrap (j16 : Int) = (j16 : Int) := IntWalk.i64_in _ (by omega)
          have z0 : (0 : Int) ≤ (k : Int) := by omega
          have z1 : (k : Int) < 64 := by omega
          have n2 : (0 : Int) ≤ (j2 : Int) := by omega
          have n15 : (0 : Int) ≤ (j15 : Int) := by omega
          have n7 : (0 : Int) ≤ (j7 : Int) := by omega
          have n16 : (0 : Int) ≤ (j16 : Int) := by omega
          have y2 : (j2 : Int) < 64 := by omega
          have y7 : (j7 : Int) < 64 := by omega
          have y15 : (j15 : Int) < 64 := by omega
          have y16 : (j16 : Int) < 64 := by omega
          clear q2 q7 q15 q16 hm
          generalize hx2 : Sh.W m j2 = x2 at *
          generalize hx7 : Sh.W m j7 = x7 at *
          generalize hx15 : Sh.W m j15 = x15 at *
          generalize hx16 : Sh.W m j16 = x16 at *
          clear hx2 hx7 hx15 hx16
          have s0 := sg0_intI l15
          have s1 := sg1_intI l2
          have a1 := add_int (Sh.sg1 x2) x7
          have a2 := add_int (Sh.add (Sh.sg1 x2) x7) (Sh.sg0 x15)
          have a3 := add_int (Sh.add (Sh.add (Sh.sg1 x2) x7) (Sh.sg0 x15)) x16
          go_wp2
          go_quiet ((go_at_call 78; exact Calls.quiet_of (rotr_all _ _ (by assumption) (by decide) (by decide) _)))
          obtain ⟨wp, hp, p2, p7, p16, pd, pf⟩ : ∃ wq, Hid (wr.drewN nq = wq) ∧ wq.cell? ⟨Bw, j2, none⟩ = some (.int .u32 x2) ∧ wq.cell? ⟨Bw, j7, none⟩ = some (.int .u32 x7) ∧ wq.cell? ⟨Bw, j16, none⟩ = some (.int .u32 x16) ∧ wq.cell? ⟨Bw, k, none⟩ = some (.int .u32 0) ∧ wq.frozen? ⟨Bw, k, none⟩ = false := ⟨_, rfl, c2, c7, c16, d, fz⟩
          rw [hp.out]
          clear c2 c7 c15 c16 d fz s0
          go_wp2
          go_quiet ((go_at_call 78; exact Calls.quiet_of (rotr_all _ _ (by assumption) (by decide) (by decide) _)))
          obtain ⟨wq, hq, k7, k16, kd, kf⟩ : ∃ wq, Hid (wp.drewN nq = wq) ∧ wq.cell? ⟨Bw, j7, none⟩ = some (.int .u32 x7) ∧ wq.cell? ⟨Bw, j16, none⟩ = some (.int .u32 x16) ∧ wq.cell? ⟨Bw, k, none⟩ = some (.int .u32 0) ∧ wq.frozen? ⟨Bw, k, none⟩ = false := ⟨_, rfl, p7, p16, pd, pf⟩
          rw [hq.out]
          clear p2 p7 p16 pd pf s1
          go_wp2
          go_still_tail 15, (by kernel_rfl)
          repeat still_step
          change wpList _ _ _ _ _ wq.drew
          go_wp2
          go_roundw
          case rel => exact ⟨k + 1, by omega, by omega, by go_num, by rw [← hq.out, ← hp.out]; exact (R.drewN _).step (m := _ + 1) (by rw [hw.out])⟩
          case measure => simp [intOf]; omega
        · have R64 : RB w Bk Bw s (Sh.W m) wr 64 := (show k = 64 by omega) ▸ R
          clear R
          have d := words8 R64.h
          obtain ⟨d0, d1, d2, d3, d4, d5, d6, d7⟩ := d
          go_wp2
          have V0 := RV.start R64
          have V0' : RV w Bk Bw wr.heap.size s m (wd s) (wr.alloc (.cells #[.int .u32 s.a, .int .u32 s.b, .int .u32 s.c, .int .u32 s.d, .int .u32 s.e, .int .u32 s.f, .int .u32 s.g, .int .u32 s.h] 85)) := V0
          clear V0 d0 d1 d2 d3 d4 d5 d6 d7 R64
          generalize (wr.alloc (.cells #[.int .u32 s.a, .int .u32 s.b, .int .u32 s.c, .int .u32 s.d, .int .u32 s.e, .int .u32 s.f, .int .u32 s.g, .int .u32 s.h] 85)) = w3 at *
          generalize hBv : wr.heap.size = Bv at *
          clear hBv
          go_loopw [12, 13, 14, 15, 16, 17, 18, 19, 20] (fun i _ _ _ _ _ _ _ _ wr => ∃ (t : Nat) (S : Sh.St), t ≤ 64 ∧ S.Ok ∧ Hid (Sh.rounds m s t = S) ∧ i = .int .i64 t ∧ RV w Bk Bw Bv s m (wd S) wr) (fun i _ _ _ _ _ _ _ _ _ => 64 - (intOf i).toNat)
          case atStart => exact ⟨0, s, by omega, hs, rfl, rfl, V0'⟩
          case round =>
            obtain ⟨t, ⟨a, b, c, d, e, f, g, h⟩, ht, hS, hr, rfl, V⟩ := hrel
            clear V0'
            by_cases hlt : t < 64
            · obtain ⟨oa, ob, oc, od, oe, of, og, oh⟩ := hS
              simp only at oa ob oc od oe of og oh
              have ck := V.kk.cell t
              have cw := V.ww.cell t
              rw [rowA_all _ _ _ _ hlt] at ck cw
              obtain ⟨d0, d1, d2, d3, d4, d5, d6, d7⟩ := words8 (S := ⟨a, b, c, d, e, f, g, h⟩) V.v
              simp only at d0 d1 d2 d3 d4 d5 d6 d7
              obtain ⟨kk, hkk⟩ : ∃ kk, Hid (Sh.k t = kk) := ⟨_, rfl⟩
              obtain ⟨ww, hww⟩ : ∃ ww, Hid (Sh.W m t = ww) := ⟨_, rfl⟩
              rw [hkk.out] at ck
              rw [hww.out] at cw
              have hk : kk < 4294967296 := hkk.out ▸ Sh.k_lt t
              have hW : ww < 4294967296 := hww.out ▸ Sh.W_lt hm t hlt
              obtain ⟨ne, p1, p2, p3, f0, f1, f2, f3, hch⟩ := ch_int oe of og
              obtain ⟨m1, m2, m3, m4, m5, g1, g2, g3, g4, g5, hmj⟩ := mj_int oa ob oc
              obtain ⟨q1, q2, q3, q4, b1, b2, b3, b4, l4, ht1⟩ := t1_int ⟨a, b, c, d, e, f, g, h⟩ kk ww p3 hch
              obtain ⟨q5, b5, l5, ht2⟩ := t2_int ⟨a, b, c, d, e, f, g, h⟩ m5 hmj
              obtain ⟨q6, b6, h6⟩ := plus_int d q4
              obtain ⟨q7, b7, h7⟩ := plus_int q4 q5
              simp only at b1 b2 b3 b4 b5
              have y1 := S1_intI oe
              have y0 := S0_intI oa
              have z0 : (0 : Int) ≤ (t : Int) := by omega
              have z1 : (t : Int) < 64 := by omega
              clear hm
              go_wp2
              go_quiet (fail)
              have V1 := V.drewN nq
              obtain ⟨wa, ha, c7, c3, cka, cwa⟩ : ∃ wa, Hid (wr.drewN nq = wa) ∧ wa.cell? ⟨Bv, 7, none⟩ = some (.int .u32 h) ∧ wa.cell? ⟨Bv, 3, none⟩ = some (.int .u32 d) ∧ wa.cell? ⟨Bk, t, none⟩ = some (.int .u32 kk) ∧ wa.cell? ⟨Bw, t, none⟩ = some (.int .u32 ww) := ⟨_, rfl, d7, d3, ck, cw⟩
              rw [ha.out] at V1 ⊢
              clear d0 d1 d2 d3 d4 d5 d6 d7 ck cw V
              go_wp2
              go_quiet ((go_at_call 78; exact Calls.quiet_of (rotr_all _ _ (by assumption) (by decide) (by decide) _)))
              have V2 := V1.drewN nq
              obtain ⟨wb, hb, c3b⟩ : ∃ wb, Hid (wa.drewN nq = wb) ∧ wb.cell? ⟨Bv, 3, none⟩ = some (.int .u32 d) := ⟨_, rfl, c3⟩
              rw [hb.out] at V2 ⊢
              clear c7 c3 cka cwa V1
              go_wp2_with (fail)
              refine (rotr_all _ _ oa (by decide) (by decide) _).mono ?_
              rintro e w' ⟨rfl, n1, rfl⟩
              go_wp2_with (fail)
              refine (rotr_all _ _ oa (by decide) (by decide) _).mono ?_
              rintro e w' ⟨rfl, n2, rfl⟩
              go_wp2_with (fail)
              refine (rotr_all _ _ oa (by decide) (by decide) _).mono ?_
              rintro e w' ⟨rfl, n3, rfl⟩
              have V3 := (V2.drewN (n1 + n2)).drewN n3
              obtain ⟨wc, hc', c3c⟩ : ∃ wc, Hid ((wb.drewN (n1 + n2)).drewN n3 = wc) ∧ wc.cell? ⟨Bv, 3, none⟩ = some (.int .u32 d) := ⟨_, rfl, c3b⟩
              rw [hc'.out] at V3 ⊢
              clear V2 c3b
              have hvv := V3.v
              go_wp2_with (refine wpList_store_row rfl 85 _ _ rfl Bv (stA ⟨q7, a, b, c, q6, e, f, g⟩) rfl rfl 85 (stA ⟨a, b, c, d, e, f, g, h⟩) hvv info8w rfl (stA_one _) ?_)
              have hS' : Sh.step ⟨a, b, c, d, e, f, g, h⟩ kk ww = ⟨q7, a, b, c, q6, e, f, g⟩ := by
                rw [h7.out, h6.out, ht1.out, ht2.out]; rfl
              refine ⟨⟨t + 1, Sh.step ⟨a, b, c, d, e, f, g, h⟩ kk ww, by omega, Sh.step_ok ⟨oa, ob, oc, od, oe, of, og, oh⟩ _ _, step_is hr.out hkk.out hww.out, by go_num, by rw [hS']; exact V3.row (wd ⟨q7, a, b, c, q6, e, f, g⟩)⟩, by simp [intOf]; omega⟩
            · have ht64 : t = 64 := by omega
              have V8 := V.congr (g := mix ⟨a, b, c, d, e, f, g, h⟩ s 0) (fun i _ => rfl)
              have hblk := hidIt (mix_block s m ⟨a, b, c, d, e, f, g, h⟩ (ht64 ▸ hr.out))
              clear V hr hS ht64
              generalize (⟨a, b, c, d, e, f, g, h⟩ : Sh.St) = S at *
              go_wp2
              go_loopw [21] (fun i wr => ∃ k : Nat, k ≤ 8 ∧ i = .int .i64 k ∧ RV w Bk Bw Bv s m (mix S s k) wr) (fun i _ => 8 - (intOf i).toNat)
              case atStart => exact ⟨0, by omega, rfl, V8⟩
              case round =>
                obtain ⟨k, hk, rfl, V⟩ := hrel
                clear V8
                by_cases hlt : k < 8
                · have d := V.v.cell k
                  have e := V.h.cell k
                  rw [wd_row, rowA_all _ _ _ _ hlt] at e
                  rw [rowA_all _ _ _ _ hlt, mix_at] at d
                  have fz := V.v.frozen k
                  obtain ⟨x, hx⟩ : ∃ x, Hid (wd S k = x) := ⟨_, rfl⟩
                  obtain ⟨y, hy⟩ : ∃ y, Hid (wd s k = y) := ⟨_, rfl⟩
                  rw [hx.out] at d
                  rw [hy.out] at e
                  obtain ⟨r, br, er⟩ := plus_int x y
                  have z0 : (0 : Int) ≤ (k : Int) := by omega
                  have z1 : (k : Int) < 8 := by omega
                  go_wp2
                  go_still_tail 8, (by kernel_rfl)
                  repeat still_step
                  change wpList _ _ _ _ _ wr.drew
                  go_wp2
                  go_roundw
                  case rel => exact ⟨k + 1, by omega, by go_num, by rw [← mix_step, hx.out, hy.out, ← er.out]; exact (V.cell k r).drewN 1⟩
                  case measure => simp [intOf]; omega
                · obtain rfl : k = 8 := by omega
                  have hvv := V.v
                  have hrr := V.r
                  have hbel := V.bel
                  rw [hblk.out] at hvv
                  obtain ⟨T, hT⟩ : ∃ T, Hid (Sh.block s m = T) := ⟨_, rfl⟩
                  rw [hT.out] at hvv
                  clear V hblk
                  go_wp2_with (first | (refine wpList_load_row rfl 85 _ rfl Bv rfl 85 (stA T) (0, 0) _ hvv Tryd.underlying85 rfl info8w ?_) | (refine wpList_store_row rfl 85 _ _ rfl (w.heap.size + 1) (stA T) rfl rfl 85 Z8 hrr info8w rfl (stA_one _) ?_))
                  have hb2 : Blk (wr.setRow (w.heap.size + 1) (stA T)) (w.heap.size + 1) 85 (stA T) := setRow_heap _ _ _ _ _ _ hrr
                  refine bodyPost_ret (v := .agg (stA T)) (results_cell_row (g := w.heap.size + 1) Tryd.results67 _ _ _ _ _ _ rfl hb2 Tryd.underlying85 rfl info8w) rfl ⟨by rw [hT.out], ?_⟩
                  refine hbel.trans ⟨rfl, rfl, rfl, by simp, fun i hi => setRow_other _ _ i _ (by omega)⟩
end Go.Proofs.YtegfbmekpmdcaaaDoor
