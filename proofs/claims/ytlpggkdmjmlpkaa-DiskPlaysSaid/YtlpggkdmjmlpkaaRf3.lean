import Derived.Test.YtlpggkdmjmlpkaaRf2
namespace Go.Proofs.Ytlpggkdmjmlpkaa
open Go.RowKit
/-- the cells that put reads -/
structure PutF (W : World) (g db bx s p z pc : Nat) (q qc : Nat) (dv : Value) : Prop where
  c1 : W.cell? ⟨g, 1, none⟩ = some dv
  b0 : W.cell? ⟨bx, 0, none⟩ = some (.int .i64 (s : Int))
  b1 : W.cell? ⟨bx, 1, none⟩ = some (.slice (some ⟨p, 0, none⟩) z pc)
  d : W.cell? ⟨db, s, none⟩ = some (.slice (some ⟨q, 0, none⟩) z qc)
  fz : W.frozen? ⟨db, s, none⟩ = false
theorem PutF.below {W W' : World} {g db bx s p z pc q qc : Nat} {dv : Value} (h : PutF W g db bx s p z pc q qc dv) (hb : Below W.heap.size W W') : PutF W' g db bx s p z pc q qc dv :=
  ⟨(hb.cell (p := ⟨g, 1, none⟩) (bytes_lt h.c1)).trans h.c1, (hb.cell (p := ⟨bx, 0, none⟩) (bytes_lt h.b0)).trans h.b0, (hb.cell (p := ⟨bx, 1, none⟩) (bytes_lt h.b1)).trans h.b1, (hb.cell (p := ⟨db, s, none⟩) (bytes_lt h.d)).trans h.d, (hb.frozen (p := ⟨db, s, none⟩) (bytes_lt h.d)).trans h.fz⟩
set_option maxRecDepth 100000 in
set_option maxHeartbeats 2000000 in
theorem rput_any (g db dc : Nat) (S : Nat → Prop) (lv : Value) (Q C P PC : Nat → Nat) (D : Dsk) (j k : Nat) (w : World) (hX : Hid (RefX w g (.slice (some ⟨db, 0, none⟩) D.n dc) lv Q C P PC D)) (hS : Hid (∀ b, RF g (.slice (some ⟨db, 0, none⟩) D.n dc) lv Q P D.n D.np b → S b)) (hlt : Hid (∀ b, S b → b < w.heap.size)) (hj : j < D.np) (hk : k ≤ D.size) :
    Calls Try.prog 45 #[.pointer (some ⟨g, 0, none⟩), .agg #[.int .i64 (D.ps j : Int), .slice (some ⟨P j, 0, none⟩) D.size (PC j)], .int .i64 (k : Int)] w fun e w' => e = .returned (.tuple #[]) ∧ ∃ S' Q' C', RPut w w' S S' g (.slice (some ⟨db, 0, none⟩) D.n dc) lv Q' C' P PC (D.put (D.ps j) (D.pb j) k) := by
  have hwf := hX.out.wf
  have hsn := hwf.pn j hj
  have hz1 := hwf.s1
  have hz2 := hwf.s2
  have hn2 := hwf.n2
  have hlb := hwf.pl j hj
  have hld := hwf.dl _ hsn
  have hpc := hX.out.pcap j hj
  have hcc := hX.out.cap _ hsn
  have hwf2 := hidIt (hwf.put (k := k) hsn hlb (hwf.pbb j hj) hk)
  obtain ⟨db', dc', e0, hdc, hdl, hdx⟩ := hX.out.durc
  cases e0
  obtain ⟨w1, hw1⟩ : ∃ w1, Hid (w.alloc (.cells #[.int .i64 (D.ps j : Int), .slice (some ⟨P j, 0, none⟩) D.size (PC j)] 73) = w1) := ⟨_, rfl⟩
  have hb1 : Below w.heap.size w w1 := by rw [← hw1.out]; exact (Below.refl _ _).alloc (Nat.le_refl _) _
  have hF1 : PutF w1 g db w.heap.size (D.ps j) (P j) D.size (PC j) (Q (D.ps j)) (C (D.ps j)) (.slice (some ⟨db, 0, none⟩) D.n dc) := by
    obtain ⟨_, _, e0, _, _, hd1⟩ := (hX.out.below hb1).durc
    cases e0
    obtain ⟨x1, x2⟩ := hd1 _ hsn
    exact ⟨(hX.out.below hb1).fields.dur, by rw [← hw1.out, (Blk.new w _ _).cell]; rfl, by rw [← hw1.out, (Blk.new w _ _).cell]; rfl, x1, x2⟩
  obtain ⟨oT, shT0, hoT⟩ := sliceTailE (Q (D.ps j)) 0 D.size (C (D.ps j)) k hk hcc
  have shH0 := fun W => sliceHead (P j) 0 D.size (PC j) k (by omega) W
  have hBh : Hid (∀ W, Below w.heap.size w W → Bytes W (some ⟨P j, 0, none⟩) ((D.pb j).take k)) := fun W hW => (((hX.out.below hW).pen j hj).head k)
  have hBt : Hid (∀ W, Below w.heap.size w W → Bytes W (some ⟨Q (D.ps j), oT, none⟩) ((D.dur (D.ps j)).drop k)) := fun W hW => (((hX.out.below hW).sec _ hsn).tail hld hoT)
  have hlh : Hid (k = ((D.pb j).take k).length) := by show _ = _; rw [List.length_take]; omega
  have hltl : Hid (D.size - k = ((D.dur (D.ps j)).drop k).length) := by show _ = _; rw [List.length_drop, hld]
  have hfin : Hid (∀ (w4 : World) v4 base, w.heap.size ≤ base → Below w.heap.size w w4 → w4.ownsRow base 5 1 v4 D.size (vals ((D.pb j).take k ++ (D.dur (D.ps j)).drop k)) → ∃ b4 c4, v4 = .slice (some ⟨b4, 0, none⟩) D.size c4 ∧ ∃ S' Q' C', RPut w (w4.setCell ⟨db, D.ps j, none⟩ (.slice (some ⟨b4, 0, none⟩) D.size c4)) S S' g (.slice (some ⟨db, 0, none⟩) D.n dc) lv Q' C' P PC (D.put (D.ps j) (D.pb j) k)) := fun w4 v4 base hbase hb4 hr4 => by
    obtain ⟨b4, c4, rfl, h4, _, hc4, hrb⟩ := own_rb hr4 hz1
    exact ⟨b4, c4, rfl, _, _, _, hX.out.put hS.out hlt.out hwf2.out hb4 hrb (Nat.le_trans hbase h4) hc4⟩
  obtain ⟨Bx, hBx⟩ : ∃ Bx, Hid (w.heap.size = Bx) := ⟨_, rfl⟩
  obtain ⟨R, hR⟩ : ∃ R : World → Prop, Hid ((fun w5 => ∃ S' Q' C', RPut w w5 S S' g (.slice (some ⟨db, 0, none⟩) D.n dc) lv Q' C' P PC (D.put (D.ps j) (D.pb j) k)) = R) := ⟨_, rfl⟩
  have hRe : ∀ w5, (∃ S' Q' C', RPut w w5 S S' g (.slice (some ⟨db, 0, none⟩) D.n dc) lv Q' C' P PC (D.put (D.ps j) (D.pb j) k)) = R w5 := fun w5 => congrFun hR.out w5
  simp only [hRe] at hfin ⊢
  obtain ⟨s, hs⟩ : ∃ s, Hid (D.ps j = s) := ⟨_, rfl⟩
  rw [hs.out] at hsn hF1 shT0 hw1 hBt hltl hfin ⊢
  obtain ⟨p, hp⟩ : ∃ p, Hid (P j = p) := ⟨_, rfl⟩
  rw [hp.out] at hF1 shH0 hw1 hBh ⊢
  obtain ⟨pc, hpcc⟩ : ∃ pc, Hid (PC j = pc) := ⟨_, rfl⟩
  rw [hpcc.out] at hF1 shH0 hw1 hpc ⊢
  obtain ⟨q, hq⟩ : ∃ q, Hid (Q s = q) := ⟨_, rfl⟩
  rw [hq.out] at hF1 shT0 hBt
  obtain ⟨qc, hqc⟩ : ∃ qc, Hid (C s = qc) := ⟨_, rfl⟩
  rw [hs.out] at hcc
  rw [hqc.out] at hF1 shT0 hcc
  obtain ⟨L1, hL1⟩ : ∃ L1, Hid ((D.pb j).take k = L1) := ⟨_, rfl⟩
  rw [hL1.out] at hBh hlh hfin
  obtain ⟨L2, hL2⟩ : ∃ L2, Hid ((D.dur s).drop k = L2) := ⟨_, rfl⟩
  rw [hL2.out] at hBt hltl hfin
  obtain ⟨z, hz⟩ : ∃ z, Hid (D.size = z) := ⟨_, rfl⟩
  rw [hz.out] at hF1 hltl hfin hk hz1 hz2 hw1 hcc hpc ⊢
  simp only [hz.out] at shT0 shH0
  obtain ⟨n, hn⟩ : ∃ n, Hid (D.n = n) := ⟨_, rfl⟩
  rw [hn.out] at hF1 hsn hn2
  obtain ⟨zt, hzt⟩ : ∃ zt, Hid (z - k = zt) := ⟨_, rfl⟩
  rw [hzt.out] at hltl
  simp only [hzt.out] at shT0
  rw [hBx.out] at hF1
  have hb1' := hidIt hb1
  have hsum : Hid (k + zt = z) := by have := hzt.out; show _ = _; omega
  have tsn : (s : Int) < (n : Int) := by omega
  clear hX hS hlt hwf hlb hld hwf2 hdl hdx hb1 hoT hRe hR hs hp hpcc hq hqc hL1 hL2 hz hn hdc hj
  go_enter Try.func45, Try.ntmps45
  go_wp2_with (fail)
  rw [hw1.out, hBx.out]
  obtain ⟨k1, k2, k3, k4, k5⟩ := hF1
  go_quiet (fail)
  obtain ⟨W, hW, hbW⟩ : ∃ W, Hid (w1.drewN nq = W) ∧ Below w1.heap.size w1 W := ⟨_, rfl, below_drewN (Below.refl _ _) _⟩
  have hF2 : PutF W g db Bx s p z pc q qc (.slice (some ⟨db, 0, none⟩) n dc) := PutF.below ⟨k1, k2, k3, k4, k5⟩ hbW
  rw [hW.out]
  have hwW : Below w.heap.size w W := below_then hb1'.out hbW
  have hbE : Below W.heap.size W (W.alloc (.cells #[] 5)) := (Below.refl _ _).alloc (Nat.le_refl _) _
  have hH1 : Hid (∀ X : World, X.heap = (W.alloc (.cells #[] 5)).heap → X.os = W.os → X.tape = W.tape → X.output = W.output → Below w.heap.size w X ∧ X.ownsRow W.heap.size 5 1 (.slice (some ⟨W.heap.size, 0, none⟩) 0 0) 0 (vals []) ∧ W.heap.size ≤ X.heap.size) := fun X e1 e2 e3 e4 => by
    have hbX : Below W.heap.size W X := ⟨e2, e3, e4, by rw [e1]; exact hbE.size, fun i hi => by rw [e1]; exact hbE.block i hi⟩
    exact ⟨below_then hwW hbX, own_blocks (emptyOwnAt W W.heap.size (Nat.le_refl _)) (fun b _ => by rw [e1]), hbX.size⟩
  have hH2 : Hid (∀ (X w3 : World) v3, X.heap = (W.alloc (.cells #[] 5)).heap → X.os = W.os → X.tape = W.tape → X.output = W.output → w3.ownsRow W.heap.size 5 1 v3 (0 + L1.length) (vals ([] ++ L1)) → X.grownBy w3 (some W.heap.size) → Below w.heap.size w w3 ∧ w3.ownsRow W.heap.size 5 1 v3 k (vals L1) ∧ Below W.heap.size W w3 ∧ PutF w3 g db Bx s p z pc q qc (.slice (some ⟨db, 0, none⟩) n dc)) := fun X w3 v3 e1 e2 e3 e4 ho hg => by
    have hbX : Below W.heap.size W X := ⟨e2, e3, e4, by rw [e1]; exact hbE.size, fun i hi => by rw [e1]; exact hbE.block i hi⟩
    have hb3 : Below W.heap.size W w3 := hbX.grown hg hbX.size (fun q hq => by cases hq; exact Nat.le_refl _)
    rw [Nat.zero_add, List.nil_append, ← hlh.out] at ho
    exact ⟨below_then hwW hb3, ho, hb3, hF2.below hb3⟩
  have hH3 : Hid (∀ (w3 w4 : World) v3 v4, Below W.heap.size W w3 → w3.ownsRow W.heap.size 5 1 v3 k (vals L1) → w4.ownsRow W.heap.size 5 1 v4 (k + L2.length) (vals (L1 ++ L2)) → w3.grownBy w4 v3.ownBlock → PutF w4 g db Bx s p z pc q qc (.slice (some ⟨db, 0, none⟩) n dc) ∧ ∃ b4 c4, v4 = .slice (some ⟨b4, 0, none⟩) z c4 ∧ R (w4.setCell ⟨db, s, none⟩ (.slice (some ⟨b4, 0, none⟩) z c4))) := fun w3 w4 v3 v4 hb3 ho3 ho hg => by
    have hb4 : Below W.heap.size W w4 := hb3.grown hg hb3.size (fun q hq => (own_lo ho3 hq).1)
    have hl : k + L2.length = z := by have := hltl.out; have := hsum.out; omega
    rw [hl] at ho
    obtain ⟨b4, c4, rfl, hR⟩ := hfin.out w4 v4 W.heap.size hwW.size (below_then hwW hb4) ho
    exact ⟨hF2.below hb4, b4, c4, rfl, hR⟩
  have hA : Hid (∀ X : World, X.heap = (W.alloc (.cells #[] 5)).heap → X.ownsRow W.heap.size 5 1 (.slice (some ⟨W.heap.size, 0, none⟩) 0 0) 0 (vals [])) := fun X e1 => own_blocks (emptyOwnAt W W.heap.size (Nat.le_refl _)) (fun b _ => by rw [e1])
  have hB : Hid (∀ X : World, X.heap = (W.alloc (.cells #[] 5)).heap → X.os = W.os → X.tape = W.tape → X.output = W.output → Bytes X (some ⟨p, 0, none⟩) L1) := fun X e1 e2 e3 e4 => hBh.out X (hH1.out X e1 e2 e3 e4).1
  have hC : Hid (∀ X : World, X.heap = (W.alloc (.cells #[] 5)).heap → W.heap.size ≤ X.heap.size) := fun X e1 => by rw [e1]; exact hbE.size
  obtain ⟨m1, m2, m3, m4, m5⟩ := hF2.below hbE
  obtain ⟨n1, n2, n3, n4, n5⟩ := hF2
  clear hH1 hwW hbE hfin hbW k1 k2 k3 k4 k5 hb1' hw1 hW hBx
  go_wp2_with (fail)
  go_region_law (first
    | (refine step_app_bytes _ rfl (.tmp 21) (.tmp 25) rfl W.heap.size (.slice (some ⟨W.heap.size, 0, none⟩) 0 0) 0 [] (by simp [Act.eval, Act.put]) (hA.out _ rfl) (some ⟨p, 0, none⟩) k pc L1 (by simp [Act.eval, Act.put]) hlh.out (hB.out _ rfl rfl rfl rfl) (fun e => by cases e) (by rw [← hlh.out]; omega) (hC.out _ rfl) ?_; intro v3 w3 ho3 hg3; obtain ⟨hb3, ho3', hb3', o1, o2, o3, o4, o5⟩ := hH2.out _ _ _ (by rfl) (by rfl) (by rfl) (by rfl) ho3 hg3; replace hb3 := hidIt hb3; replace ho3' := hidIt ho3'; replace hb3' := hidIt hb3'; clear ho3 hg3)
    | (refine step_app_bytes _ rfl (.tmp 26) (.tmp 29) rfl W.heap.size v3 k L1 (by simp [Act.eval]) ho3'.out (some ⟨q, oT, none⟩) zt (qc - k) L2 (by simp [Act.eval]) hltl.out (hBt.out _ hb3.out) (fun e => by cases e) (by rw [← hltl.out]; have := hsum.out; omega) hb3'.out.size ?_; intro v4 w4 ho4 hg4; obtain ⟨⟨r1, r2, r3, r4, r5⟩, b4, c4, rfl, hR⟩ := hH3.out _ _ _ _ hb3'.out ho3'.out ho4 hg4; replace hR := hidIt hR; clear ho4 hg4))
  all_goals
    go_end0
    exact ⟨rfl, hR.out⟩
end Go.Proofs.Ytlpggkdmjmlpkaa
