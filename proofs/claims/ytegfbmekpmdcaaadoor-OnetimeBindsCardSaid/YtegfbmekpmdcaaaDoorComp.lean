import Derived.Test.YtegfbmekpmdcaaaDoorSched
namespace Go.Proofs.YtegfbmekpmdcaaaDoor
open Go.RowKit
def stA (s : Sh.St) : Array Value := #[.int .u32 s.a, .int .u32 s.b, .int .u32 s.c, .int .u32 s.d, .int .u32 s.e, .int .u32 s.f, .int .u32 s.g, .int .u32 s.h]
abbrev Z8 : Array Value := #[.int .u32 0, .int .u32 0, .int .u32 0, .int .u32 0, .int .u32 0, .int .u32 0, .int .u32 0, .int .u32 0]
theorem info8w {s : Sh.St} : (Tryd.prog.info? 85).map (·.size) = some (stA s).size := by kernel_rfl
theorem stA_one (s : Sh.St) : (stA s).all (·.oneCell') = true := by simp [stA, Value.oneCell']
/-- what the package-level variables hold -/
structure Laid (w : World) : Prop where
  two : 2 + 1 ≤ w.heap.size
  k : ∀ i, i < 64 → w.cell? ⟨2, i, none⟩ = some (.int .u32 (Sh.k i))
  h : ∃ t fr, w.heap[(1 : Nat)]? = some (.cells (stA Sh.H0) t fr)
theorem Laid.below {B : Nat} {w w1 : World} (h : Laid w) (hb : Below B w w1) (hB : 2 + 1 ≤ B) : Laid w1 :=
  ⟨Nat.le_trans h.two hb.size, fun i hi => (hb.cell (p := ⟨2, i, none⟩) (by show 2 < B; omega)).trans (h.k i hi), by
    obtain ⟨t, fr, e⟩ := h.h
    exact ⟨t, fr, (hb.block _ (by omega)).trans e⟩⟩
theorem S0_int {x : Nat} (h : x < 4294967296) : bits BinOp.xor IntKind.u32 (bits BinOp.xor IntKind.u32 (Sh.rr x 2 : Int) (Sh.rr x 13 : Int)) (Sh.rr x 22 : Int) = ((Sh.S0 x : Nat) : Int) := by
  rw [u32_xor_nat _ _ (Sh.rr_lt _ h) (Sh.rr_lt _ h), u32_xor_nat _ _ (Sh.xor_lt (Sh.rr_lt _ h) (Sh.rr_lt _ h)) (Sh.rr_lt _ h)]
  rfl
theorem S1_int {x : Nat} (h : x < 4294967296) : bits BinOp.xor IntKind.u32 (bits BinOp.xor IntKind.u32 (Sh.rr x 6 : Int) (Sh.rr x 11 : Int)) (Sh.rr x 25 : Int) = ((Sh.S1 x : Nat) : Int) := by
  rw [u32_xor_nat _ _ (Sh.rr_lt _ h) (Sh.rr_lt _ h), u32_xor_nat _ _ (Sh.xor_lt (Sh.rr_lt _ h) (Sh.rr_lt _ h)) (Sh.rr_lt _ h)]
  rfl
theorem ch_int {e f g : Nat} (he : e < 4294967296) (hf : f < 4294967296) (hg : g < 4294967296) : ∃ ne p1 p2 p3 : Nat,
    bits BinOp.xor IntKind.u32 (if IntKind.u32.signed = true then -1 else IntKind.u32.max) (e : Int) = (ne : Int) ∧ bits BinOp.and IntKind.u32 (e : Int) (f : Int) = (p1 : Int) ∧ bits BinOp.and IntKind.u32 (ne : Int) (g : Int) = (p2 : Int) ∧
    bits BinOp.xor IntKind.u32 (p1 : Int) (p2 : Int) = (p3 : Int) ∧ Hid (p3 = Sh.ch e f g) := by
  refine ⟨4294967295 - e, e &&& f, (4294967295 - e) &&& g, Sh.ch e f g, ?_, u32_and_nat _ _ he hf, u32_and_nat _ _ (by omega) hg, u32_xor_nat _ _ (Sh.and_lt he) (Sh.and_lt (by omega)), rfl⟩
  show bits BinOp.xor IntKind.u32 (4294967295 : Int) (e : Int) = _
  have h1 := u32_xor_nat 4294967295 e (by decide) he
  have h2 : 4294967295 ^^^ e = 4294967295 - e := by
    apply Nat.eq_of_testBit_eq
    intro i
    have := Nat.testBit_two_pow_sub_succ (n := 32) (x := e) he i
    rw [show 2 ^ 32 - (e + 1) = 4294967295 - e by omega] at this
    rw [this, Nat.testBit_xor, show (4294967295 : Nat) = 2 ^ 32 - 1 from rfl, Nat.testBit_two_pow_sub_one]
    by_cases hi : i < 32
    · simp [hi]
    · have : e.testBit i = false := Nat.testBit_lt_two_pow (Nat.lt_of_lt_of_le he (Nat.pow_le_pow_right (n := 2) (by decide) (by omega : 32 ≤ i)))
      simp [hi, this]
  rw [h2] at h1
  exact h1
theorem mj_int {a b c : Nat} (ha : a < 4294967296) (hb : b < 4294967296) (hc : c < 4294967296) : ∃ p1 p2 p3 p4 p5 : Nat,
    bits BinOp.and IntKind.u32 (a : Int) (b : Int) = (p1 : Int) ∧ bits BinOp.and IntKind.u32 (a : Int) (c : Int) = (p2 : Int) ∧ bits BinOp.xor IntKind.u32 (p1 : Int) (p2 : Int) = (p3 : Int) ∧
    bits BinOp.and IntKind.u32 (b : Int) (c : Int) = (p4 : Int) ∧ bits BinOp.xor IntKind.u32 (p3 : Int) (p4 : Int) = (p5 : Int) ∧ Hid (p5 = Sh.mj a b c) :=
  ⟨_, _, _, _, _, u32_and_nat _ _ ha hb, u32_and_nat _ _ ha hc, u32_xor_nat _ _ (Sh.and_lt ha) (Sh.and_lt ha), u32_and_nat _ _ hb hc, u32_xor_nat _ _ (Sh.xor_lt (Sh.and_lt ha) (Sh.and_lt ha)) (Sh.and_lt hb), rfl⟩
theorem plus_int (a b : Nat) : ∃ q : Nat, IntKind.u32.wrap ((a : Int) + (b : Int)) = (q : Int) ∧ Hid (q = Sh.add a b) := ⟨_, add_int a b, rfl⟩
theorem t1_int (s : Sh.St) (kk ww p : Nat) (hp : Hid (p = Sh.ch s.e s.f s.g)) : ∃ q1 q2 q3 q4 : Nat,
    IntKind.u32.wrap ((s.h : Int) + (Sh.S1 s.e : Int)) = (q1 : Int) ∧ IntKind.u32.wrap ((q1 : Int) + (p : Int)) = (q2 : Int) ∧ IntKind.u32.wrap ((q2 : Int) + (kk : Int)) = (q3 : Int) ∧ IntKind.u32.wrap ((q3 : Int) + (ww : Int)) = (q4 : Int) ∧
    q4 < 4294967296 ∧ Hid (q4 = Sh.t1 s kk ww) :=
  ⟨_, _, _, _, add_int _ _, add_int _ _, add_int _ _, add_int _ _, Sh.add_lt _ _, by rw [hp.out]; rfl⟩
theorem t2_int (s : Sh.St) (p : Nat) (hp : Hid (p = Sh.mj s.a s.b s.c)) : ∃ q : Nat, IntKind.u32.wrap ((Sh.S0 s.a : Int) + (p : Int)) = (q : Int) ∧ q < 4294967296 ∧ Hid (q = Sh.t2 s) :=
  ⟨_, add_int _ _, Sh.add_lt _ _, by rw [hp.out]; rfl⟩
theorem step_is {m : Nat → Nat} {s S : Sh.St} {t kk ww : Nat} (h : Sh.rounds m s t = S) (hk : Sh.k t = kk) (hw : Sh.W m t = ww) : Hid (Sh.rounds m s (t + 1) = Sh.step S kk ww) := by
  show _ = _
  rw [← h, ← hk, ← hw]; rfl
/-- what the loop of compress finds -/
structure CoR (w : World) (B : Nat) (s : Sh.St) (m : Nat → Nat) (w1 : World) : Prop where
  words : Blk w1 w.heap.size 85 (stA s)
  res : Blk w1 (w.heap.size + 1) 85 Z8
  row : Blk w1 B 104 (rowA .u32 (Sh.W m) 64 64)
  bel : Below w.heap.size w w1
  lt : w.heap.size + 1 < B
theorem CoR.mk' (w w1 : World) (s : Sh.St) (m : Nat → Nat) (hb1 : Below ((w.alloc (.cells (stA s) 85)).alloc (.cells Z8 85)).heap.size ((w.alloc (.cells (stA s) 85)).alloc (.cells Z8 85)) w1) :
    CoR w w1.heap.size s m ((w1.alloc (.cells (rowA .u32 (fun _ => 0) 64 0) 104)).setRow w1.heap.size (rowA .u32 (Sh.W m) 64 64)) := by
  have hs : w.heap.size + 2 ≤ w1.heap.size := by have := hb1.size; simpa using this
  have e0 : Blk ((w.alloc (.cells (stA s) 85)).alloc (.cells Z8 85)) w.heap.size 85 (stA s) := (Blk.new w _ _).alloc _
  have e1 : Blk ((w.alloc (.cells (stA s) 85)).alloc (.cells Z8 85)) (w.heap.size + 1) 85 Z8 := by
    have := Blk.new (w.alloc (.cells (stA s) 85)) 85 Z8
    rwa [World.size_alloc] at this
  have far : ∀ g cs, g < w1.heap.size → Blk w1 g 85 cs → Blk ((w1.alloc (.cells (rowA .u32 (fun _ => 0) 64 0) 104)).setRow w1.heap.size (rowA .u32 (Sh.W m) 64 64)) g 85 cs := fun g cs hg hB => (setRow_other _ _ g _ (by omega)).trans (hB.alloc _)
  refine ⟨far _ _ (by omega) (e0.below hb1 (by simp only [World.size_alloc]; omega)), far _ _ (by omega) (e1.below hb1 (by simp only [World.size_alloc]; omega)), ?_, ?_, by omega⟩
  · exact setRow_heap _ _ _ _ _ _ (Blk.new w1 _ _)
  · refine (((Below.refl _ _).alloc (Nat.le_refl _) _).alloc (by simp) _).trans ((hb1.mono (by simp; try omega)).trans ?_)
    refine ⟨rfl, rfl, rfl, by simp, fun i hi => ?_⟩
    exact (setRow_other _ _ i _ (by omega)).trans (Below.heap_alloc w1 _ i (by omega))
set_option maxRecDepth 100000 in
set_option maxHeartbeats 2000000 in
theorem comp_any (s : Sh.St) (hs : s.Ok) (b off cap : Nat) (m : Nat → Nat) (hc : 64 ≤ cap) (hm : ∀ i, m i < 256) (w : World) (hL : Laid w) (h : ∀ i, i < 64 → w.cell? ⟨b, off + i, none⟩ = some (.int .u8 (m i))) :
    Calls Tryd.prog 84 #[.agg (stA s), .slice (some ⟨b, off, none⟩) 64 cap] w fun e w' => e = .returned (.agg (stA (Sh.block s m))) ∧ Below w.heap.size w w' := by
  go_enter Tryd.func84, Tryd.ntmps84
  go_wp2_with (fail)
  have hb0 : Below w.heap.size w ((w.alloc (.cells (stA s) 85)).alloc (.cells Z8 85)) := ((Below.refl _ _).alloc (Nat.le_refl _) _).alloc (by simp) _
  have h' : ∀ i, i < 64 → ((w.alloc (.cells (stA s) 85)).alloc (.cells Z8 85)).cell? ⟨b, off + i, none⟩ = some (.int .u8 (m i)) := fun i hi => (hb0.cell (p := ⟨b, off + i, none⟩) (bytes_lt (h i hi))).trans (h i hi)
  refine (sched_any b off cap m hc hm _ h').mono ?_
  rintro e w1 ⟨rfl, hb1⟩
  have hz := zero64w
  go_wp2_with (refine wpList_store_row rfl 104 _ _ rfl w1.heap.size (rowA .u32 (Sh.W m) 64 64) rfl rfl 104 (rowA .u32 (fun _ => 0) 64 0) (heap_alloc_new _ _) (by rw [rowA_size]; kernel_rfl) (by rw [rowA_size, rowA_size]) (rowA_one _ _ _ _) ?_)
  obtain ⟨w2, hw2, C⟩ : ∃ w2, Hid ((w1.alloc (.cells (rowA .u32 (fun _ => 0) 64 0) 104)).setRow w1.heap.size (rowA .u32 (Sh.W m) 64 64) = w2) ∧ CoR w w1.heap.size s m w2 := ⟨_, rfl, CoR.mk' w w1 s m hb1⟩
  rw [hw2.out]
  have hL2 := hL.below C.bel hL.two
  generalize hB : w1.heap.size = B at *
  clear hB hb1 hw2 hb0 h' h hz hL
  have d0 := C.words.cell 0
  have d1 := C.words.cell 1
  have d2 := C.words.cell 2
  have d3 := C.words.cell 3
  have d4 := C.words.cell 4
  have d5 := C.words.cell 5
  have d6 := C.words.cell 6
  have d7 := C.words.cell 7
  simp only [stA, List.getElem?_toArray, List.getElem?_cons_zero, List.getElem?_cons_succ] at d0 d1 d2 d3 d4 d5 d6 d7
  go_frame
  go_quiet (fail)
  go_wp2
  go_quiet (fail)
  go_wp2
  go_loopw [37, 6, 7, 8, 9, 10, 11, 12, 13, 14, 15, 16, 17, 18] (fun i a b c d e f g h _ _ _ _ _ wr => ∃ (t : Nat) (S : Sh.St), t ≤ 64 ∧ S.Ok ∧ Hid (Sh.rounds m s t = S) ∧ i = .int .i64 t ∧ a = .int .u32 S.a ∧ b = .int .u32 S.b ∧ c = .int .u32 S.c ∧ d = .int .u32 S.d ∧ e = .int .u32 S.e ∧ f = .int .u32 S.f ∧ g = .int .u32 S.g ∧ h = .int .u32 S.h ∧ Hid (∃ n, wr = w2.drewN n)) (fun i _ _ _ _ _ _ _ _ _ _ _ _ _ _ => 64 - (intOf i).toNat)
  case atStart => exact ⟨0, s, by omega, hs, rfl, rfl, rfl, rfl, rfl, rfl, rfl, rfl, rfl, rfl, hidIt ⟨_, World.drewN_drewN ..⟩⟩
  case round =>
    obtain ⟨t, ⟨a, b, c, d, e, f, g, h⟩, ht, hS, hr, rfl, rfl, rfl, rfl, rfl, rfl, rfl, rfl, rfl, hw⟩ := hrel
    obtain ⟨oa, ob, oc, od, oe, of, og, oh⟩ := hS
    simp only at oa ob oc od oe of og oh
    simp only
    by_cases hlt : t < 64
    · have ck0 := hL2.k t hlt
      have cw0 := C.row.cell t
      rw [rowA_all _ _ _ _ hlt] at cw0
      obtain ⟨wq, hq, ck, cw⟩ : ∃ wq, Hid (wr = wq) ∧ wq.cell? ⟨2, t, none⟩ = some (.int .u32 (Sh.k t)) ∧ wq.cell? ⟨B, t, none⟩ = some (.int .u32 (Sh.W m t)) := by
        obtain ⟨n, rfl⟩ := hw.out
        exact ⟨_, rfl, ck0, cw0⟩
      rw [hq.out]
      obtain ⟨kk, hkk⟩ : ∃ kk, Hid (Sh.k t = kk) := ⟨_, rfl⟩
      obtain ⟨ww, hww⟩ : ∃ ww, Hid (Sh.W m t = ww) := ⟨_, rfl⟩
      rw [hkk.out] at ck
      rw [hww.out] at cw
      have hk : kk < 4294967296 := hkk.out ▸ Sh.k_lt t
      have hW : ww < 4294967296 := hww.out ▸ Sh.W_lt hm t hlt
      obtain ⟨ne, p1, p2, p3, f0, f1, f2, f3, hch⟩ := ch_int oe of og
      obtain ⟨m1, m2, m3, m4, m5, g1, g2, g3, g4, g5, hmj⟩ := mj_int oa ob oc
      obtain ⟨q1, q2, q3, q4, b1, b2, b3, b4, l4, ht1⟩ := t1_int ⟨a, b, c, d, e, f, g, h⟩ kk ww p3 hch
      obtain ⟨q5, b5, l5, ht2⟩ := t2_int ⟨a, b, c, d, e, f, g, h⟩ m5 hmj
      obtain ⟨q6, b6, h6⟩ := plus_int d q4
      obtain ⟨q7, b7, h7⟩ := plus_int q4 q5
      simp only at b1 b2 b3 b4 b5
      have y1 := S1_int oe
      have y0 := S0_int oa
      have z0 : (0 : Int) ≤ (t : Int) := by omega
      have z1 : (t : Int) < 64 := by omega
      clear hm ck0 cw0 d0 d1 d2 d3 d4 d5 d6 d7 hL2 C
      go_wp2_with (fail)
      refine (rot_any _ 6 _ rfl oe (by decide) (by decide) _).mono ?_
      rintro e w' ⟨rfl, rfl⟩
      go_wp2_with (fail)
      refine (rot_any _ 11 _ rfl oe (by decide) (by decide) _).mono ?_
      rintro e w' ⟨rfl, rfl⟩
      go_wp2_with (fail)
      refine (rot_any _ 25 _ rfl oe (by decide) (by decide) _).mono ?_
      rintro e w' ⟨rfl, rfl⟩
      go_wp2_with (fail)
      go_quiet (fail)
      go_wp2_with (fail)
      refine (rot_any _ 2 _ rfl oa (by decide) (by decide) _).mono ?_
      rintro e w' ⟨rfl, rfl⟩
      go_wp2_with (fail)
      refine (rot_any _ 13 _ rfl oa (by decide) (by decide) _).mono ?_
      rintro e w' ⟨rfl, rfl⟩
      go_wp2_with (fail)
      refine (rot_any _ 22 _ rfl oa (by decide) (by decide) _).mono ?_
      rintro e w' ⟨rfl, rfl⟩
      go_wp2_with (fail)
      go_roundw
      case rel => exact ⟨t + 1, Sh.step ⟨a, b, c, d, e, f, g, h⟩ kk ww, by omega, Sh.step_ok ⟨oa, ob, oc, od, oe, of, og, oh⟩ _ _, step_is hr.out hkk.out hww.out, by go_num, by rw [h7.out, ht1.out, ht2.out]; rfl, rfl, rfl, rfl, by rw [h6.out, ht1.out]; rfl, rfl, rfl, rfl, hidIt (by obtain ⟨n, hn⟩ := hw.out; rw [← hq.out, hn]; exact ⟨_, World.drewN_drewN ..⟩)⟩
      case measure => simp [intOf]; omega
    · obtain ⟨wq, hq, d0, d1, d2, d3, d4, d5, d6, d7, hres, hbel⟩ : ∃ wq, Hid (wr = wq) ∧ wq.cell? ⟨w.heap.size, 0, none⟩ = some (.int .u32 s.a) ∧ wq.cell? ⟨w.heap.size, 1, none⟩ = some (.int .u32 s.b) ∧ wq.cell? ⟨w.heap.size, 2, none⟩ = some (.int .u32 s.c) ∧ wq.cell? ⟨w.heap.size, 3, none⟩ = some (.int .u32 s.d) ∧ wq.cell? ⟨w.heap.size, 4, none⟩ = some (.int .u32 s.e) ∧ wq.cell? ⟨w.heap.size, 5, none⟩ = some (.int .u32 s.f) ∧ wq.cell? ⟨w.heap.size, 6, none⟩ = some (.int .u32 s.g) ∧ wq.cell? ⟨w.heap.size, 7, none⟩ = some (.int .u32 s.h) ∧ Blk wq (w.heap.size + 1) 85 Z8 ∧ Below w.heap.size w wq := by
        obtain ⟨n, rfl⟩ := hw.out
        exact ⟨_, rfl, d0, d1, d2, d3, d4, d5, d6, d7, C.res.drewN n, below_drewN C.bel n⟩
      rw [hq.out]
      obtain rfl : t = 64 := by omega
      clear hw hq C hL2 hm
      obtain ⟨r0, k0, e0⟩ := plus_int s.a a
      obtain ⟨r1, k1, e1⟩ := plus_int s.b b
      obtain ⟨r2, k2, e2⟩ := plus_int s.c c
      obtain ⟨r3, k3, e3⟩ := plus_int s.d d
      obtain ⟨r4, k4, e4⟩ := plus_int s.e e
      obtain ⟨r5, k5, e5⟩ := plus_int s.f f
      obtain ⟨r6, k6, e6⟩ := plus_int s.g g
      obtain ⟨r7, k7, e7⟩ := plus_int s.h h
      have hfin : stA ⟨r0, r1, r2, r3, r4, r5, r6, r7⟩ = stA (Sh.block s m) := by
        unfold Sh.block
        rw [hr.out, e0.out, e1.out, e2.out, e3.out, e4.out, e5.out, e6.out, e7.out]; rfl
      have H := hidIt hfin
      clear hfin
      go_wp2_with (refine wpList_store_row rfl 85 _ _ rfl (w.heap.size + 1) (stA ⟨r0, r1, r2, r3, r4, r5, r6, r7⟩) rfl rfl 85 Z8 hres ?c1 ?c2 ?c3 ?_)
      case c1 => exact info8w
      case c2 => rfl
      case c3 => exact stA_one _
      have hb2 : Blk (wq.setRow (w.heap.size + 1) (stA ⟨r0, r1, r2, r3, r4, r5, r6, r7⟩)) (w.heap.size + 1) 85 (stA ⟨r0, r1, r2, r3, r4, r5, r6, r7⟩) := setRow_heap _ _ _ _ _ _ hres
      rw [← H.out]
      refine bodyPost_ret (v := .agg (stA ⟨r0, r1, r2, r3, r4, r5, r6, r7⟩)) (results_cell_row (g := w.heap.size + 1) Tryd.results84 _ _ _ _ _ _ rfl hb2 Tryd.underlying85 rfl info8w) rfl ⟨rfl, ?_⟩
      refine hbel.trans ⟨rfl, rfl, rfl, by simp, fun i hi => setRow_other _ _ i _ (by omega)⟩
end Go.Proofs.YtegfbmekpmdcaaaDoor
