import Derived.Test.YtegfbmekpmdcaaaDoorOn8
namespace Go.Proofs.YtegfbmekpmdcaaaDoor
open Go.RowKit
/-- the variables of the closure in Recover: digits in D (the row gd), parameters in G, parts in P -/
structure RVo (w : World) (D G P gd n : Nat) (F : Nat → Nat) (b s : Int) (bp op len cap : Nat) (ss : List ByteArray) (W : World) : Prop where
  dc : W.cell? ⟨D, 0, none⟩ = some (.slice (some ⟨gd, 0, none⟩) n n)
  row : Blk W gd 3 (rowA .i64 F n n)
  c0 : W.cell? ⟨G, 0, none⟩ = some (.int .i64 b)
  c1 : W.cell? ⟨G, 1, none⟩ = some (.int .i64 s)
  pc : W.cell? ⟨P, 0, none⟩ = some (.slice (some ⟨bp, op, none⟩) len cap)
  st : Strs W (some ⟨bp, op, none⟩) ss
  lad : LaidH W
  bel : Below w.heap.size w W
theorem RVo.next {w W W' : World} {D G P gd n : Nat} {F : Nat → Nat} {b s : Int} {bp op len cap : Nat} {ss : List ByteArray} (h : RVo w D G P gd n F b s bp op len cap ss W) (hb : Below W.heap.size W W') : RVo w D G P gd n F b s bp op len cap ss W' :=
  ⟨(hb.cell (p := ⟨D, 0, none⟩) (bytes_lt h.dc)).trans h.dc, h.row.below hb h.row.lt, (hb.cell (p := ⟨G, 0, none⟩) (bytes_lt h.c0)).trans h.c0, (hb.cell (p := ⟨G, 1, none⟩) (bytes_lt h.c1)).trans h.c1, (hb.cell (p := ⟨P, 0, none⟩) (bytes_lt h.pc)).trans h.pc, h.st.below hb, h.lad.below hb h.lad.two, below_then h.bel hb⟩
theorem RVo.drew {w W : World} {D G P gd n : Nat} {F : Nat → Nat} {b s : Int} {bp op len cap : Nat} {ss : List ByteArray} (h : RVo w D G P gd n F b s bp op len cap ss W) : RVo w D G P gd n F b s bp op len cap ss W.drew := h.next (Below.refl _ _).drew
theorem RVo.behind {w W W' : World} {D G P gd n : Nat} {F : Nat → Nat} {b s : Int} {bp op len cap : Nat} {ss : List ByteArray} (hb : Below W.heap.size W W') (h : RVo w D G P gd n F b s bp op len cap ss W) : RVo w D G P gd n F b s bp op len cap ss W' := h.next hb
theorem RVo.all {w W : World} {D G P gd n : Nat} {F : Nat → Nat} {b s : Int} {bp op len cap : Nat} {ss : List ByteArray} {i d : Nat} {x : ByteArray} (hi : Hid (i < n ∧ F i = d ∧ i < ss.length ∧ ss.getD i ByteArray.empty = x)) (h : RVo w D G P gd n F b s bp op len cap ss W) : RVo w D G P gd n F b s bp op len cap ss W ∧ W.cell? ⟨D, 0, none⟩ = some (.slice (some ⟨gd, 0, none⟩) n n) ∧ W.cell? ⟨gd, i, none⟩ = some (.int .i64 (d : Int)) ∧ W.cell? ⟨G, 0, none⟩ = some (.int .i64 b) ∧ W.cell? ⟨G, 1, none⟩ = some (.int .i64 s) ∧ W.cell? ⟨P, 0, none⟩ = some (.slice (some ⟨bp, op, none⟩) len cap) ∧ W.cell? ⟨bp, op + i, none⟩ = some (.string x) := by
  refine ⟨h, h.dc, ?_, h.c0, h.c1, h.pc, ?_⟩
  · rw [h.row.cell, rowA_all _ _ _ _ hi.out.1, hi.out.2.1]
  · obtain ⟨b', o', h1, h2⟩ := h.st i hi.out.2.2.1
    cases h1
    rw [h2, hi.out.2.2.2]
set_option maxRecDepth 100000 in
set_option maxHeartbeats 1000000 in
theorem rec1_any (b s : Nat) (ho : Ot.okB b s = true) (D G P gd n : Nat) (F : Nat → Nat) (bp op len cap : Nat) (ss : List ByteArray) (c d : Nat) (hc : c ≤ 999) (x : ByteArray) (h32 : x.size = 32) (hi : Hid (c < n ∧ F c = d ∧ c < ss.length ∧ ss.getD c ByteArray.empty = x)) (hlen : len = ss.length) (hd : d ≤ Ot.las b) (w0 w : World) (hV : RVo w0 D G P gd n F (b : Int) (s : Int) bp op len cap ss w) :
    Calls Tryd.prog 58 #[.int .i64 (c : Int), .pointer (some ⟨D, 0, none⟩), .pointer (some ⟨G, 0, none⟩), .pointer (some ⟨P, 0, none⟩)] w fun e w' => e = .returned (.string (Ot.chn c d (Ot.las b - d) x)) ∧ Below w.heap.size w w' := by
  have d1 : Hid (∀ W, Calls Tryd.prog 41 #[.agg #[.int .i64 (b : Int), .int .i64 (s : Int)]] W fun e w' => e = .returned (.int .i64 (Ot.las b : Int)) ∧ Below W.heap.size W w') := fun W => last_any b s ho W
  have hl255 := (Ot.las_bd b s ho).2.1
  obtain ⟨l, hl⟩ : ∃ l, Hid (Ot.las b = l) := ⟨_, rfl⟩
  obtain ⟨y, hy⟩ : ∃ y, Hid (Ot.chn c d (l - d) x = y) := ⟨_, rfl⟩
  rw [hl.out] at d1 hd hl255 ⊢
  rw [hy.out]
  have d2 : Hid (∀ W B, LaidH W → LabR W B c → Calls Tryd.prog 63 #[.int .i64 (d : Int), .int .i64 (l : Int), .string x, .pointer (some ⟨B, 0, none⟩)] W fun e w' => e = .returned (.string y) ∧ Below W.heap.size W w') := fun W B hW hB => hy.out ▸ goes_any B c d l x h32 hd hl255 W hW hB
  have d3 : Hid (∀ W, Calls Tryd.prog 48 #[.int .i64 (c : Int)] W fun e w' => (∃ B, e = .returned (.func (.func 63) #[] #[.pointer (some ⟨B, 0, none⟩)]) ∧ LabR w' B c ∧ W.heap.size ≤ B) ∧ Below W.heap.size W w') := fun W => along_any c hc W
  have p : RVo w D G P gd n F (b : Int) (s : Int) bp op len cap ss w := ⟨hV.dc, hV.row, hV.c0, hV.c1, hV.pc, hV.st, hV.lad, Below.refl _ _⟩
  have i1 : c < n := hi.out.1
  have i2 : c < len := by have := hi.out.2.2.1; omega
  obtain ⟨_, e0, e1, e2, e3, e4, e5⟩ := RVo.all hi p
  clear hl hy ho hV hc hd hl255 h32 hlen
  go_enter Tryd.func58, Tryd.ntmps58
  go_wp2_with (fail)
  go_region_held3 (fun W' => RVo w D G P gd n F (b : Int) (s : Int) bp op len cap ss W' ∧ W'.cell? ⟨D, 0, none⟩ = some (.slice (some ⟨gd, 0, none⟩) n n) ∧ W'.cell? ⟨gd, c, none⟩ = some (.int .i64 (d : Int)) ∧ W'.cell? ⟨G, 0, none⟩ = some (.int .i64 (b : Int)) ∧ W'.cell? ⟨G, 1, none⟩ = some (.int .i64 (s : Int)) ∧ W'.cell? ⟨P, 0, none⟩ = some (.slice (some ⟨bp, op, none⟩) len cap) ∧ W'.cell? ⟨bp, op + c, none⟩ = some (.string x))
    (first
      | exact RVo.all hi (by assumption)
      | (go_split_ands; exact RVo.all hi (by assumption))
      | (go_split_ands; exact RVo.all hi (RVo.drew (by assumption)))
      | (go_split_ands; exact RVo.all hi (RVo.behind (by assumption) (by assumption))))
    (first
      | (go_at_call 41; (with_reducible refine Calls.mono (d1.out _) ?_); rintro e w7 ⟨rfl, hb7⟩)
      | (go_at_call 48; (with_reducible refine Calls.mono (d3.out _) ?_); rintro e w8 ⟨⟨B, rfl, hB, hge⟩, hb8⟩)
      | (go_at_call 63; (with_reducible refine Calls.mono (d2.out _ _ ?_ ?_) ?_); (focus (go_split_ands; exact RVo.lad (by assumption))); (focus (first | assumption | exact LabR.below (by assumption) (by assumption))); rintro e w9 ⟨rfl, hb9⟩))
  all_goals
    go_split_ands
    have hS : RVo w D G P gd n F (b : Int) (s : Int) bp op len cap ss w9 := by assumption
    have HB := hidIt hS.bel
    clear hS d1 d2 d3 p e0 e1 e2 e3 e4 e5
    go_wp2_with (fail)
    go_ret
    exact ⟨rfl, HB.out⟩
set_option maxRecDepth 100000 in
set_option maxHeartbeats 1000000 in
theorem joinedB_any (b s : Nat) (ho : Ot.okB b s = true) (D G P : Nat) (E : Nat → ByteArray) (hE : ∀ i, i < Ot.tot b s → (E i).size = 32) (w : World) (hL : LaidH w)
    (hF : Hid (∀ (i : Nat) (W : World), Below w.heap.size w W → i < Ot.tot b s → Calls Tryd.prog 58 #[.int .i64 (i : Int), .pointer (some ⟨D, 0, none⟩), .pointer (some ⟨G, 0, none⟩), .pointer (some ⟨P, 0, none⟩)] W fun e w' => e = .returned (.string (E i)) ∧ Below W.heap.size W w')) :
    Calls Tryd.prog 53 #[.agg #[.int .i64 (b : Int), .int .i64 (s : Int)], .func (.func 58) #[] #[.pointer (some ⟨D, 0, none⟩), .pointer (some ⟨G, 0, none⟩), .pointer (some ⟨P, 0, none⟩)]] w fun e w' => e = .returned (.string (str (Sh.sum (Ot.endsTo E (Ot.tot b s))))) ∧ Below w.heap.size w w' := by
  have kc := fun (w : World) (C : Array Value) (n c : Nat) => Lib.run_convert_bytes_const (P := Tryd.prog) w 66 5 C n c Tryd.underlying66 Tryd.underlying5
  have hn2 := (Ot.tot_bd b s ho).2
  have dC : Hid (∀ W, Calls Tryd.prog 18 #[.agg #[.int .i64 (b : Int), .int .i64 (s : Int)]] W fun e w' => e = .returned (.int .i64 (Ot.tot b s : Int)) ∧ Below W.heap.size W w') := fun W => chains_ok b s ho W
  obtain ⟨n, hn⟩ : ∃ n, Hid (Ot.tot b s = n) := ⟨_, rfl⟩
  rw [hn.out] at hn2 dC hF hE ⊢
  have hlen : Hid (∀ k, k ≤ n → (Ot.endsTo E k).length = 6 + 32 * k) := fun k hk => Ot.endsTo_len k fun i hi => hE i (by omega)
  have hE2 := hidIt hE
  have p0 : PS w w.heap.size (b : Int) (s : Int) (w.alloc (.cells #[.int .i64 (b : Int), .int .i64 (s : Int)] 25)) := ps_new _ _ _ _
  have La := hL.below p0.bel hL.two
  clear ho hn hE
  go_enter Tryd.func53, Tryd.ntmps53
  go_wp2_with (fail)
  refine (new_any _ La.l).mono ?_
  rintro e w1 ⟨rfl, hs1, hb1⟩
  rw [World.size_alloc] at hs1
  have p1 := p0.next hb1
  obtain ⟨G0, hG0⟩ : ∃ G0, Hid (w.heap.size = G0) := ⟨_, rfl⟩
  have hs1' := hidIt hs1
  have hgB : Hid (w.heap.size ≤ w.heap.size + 1) := Nat.le_succ _
  obtain ⟨g, hg⟩ : ∃ g, Hid (w.heap.size + 1 = g) := ⟨_, rfl⟩
  try rw [World.size_alloc]
  rw [hg.out] at hs1' hgB
  try rw [hg.out]
  have e0 := p1.c0
  have e1 := p1.c1
  have hGw := bytes_lt e0
  clear hb1 p0 hs1 La
  go_wp2_with (fail)
  have hbA : Below w1.heap.size w1 (w1.alloc (.cells #[.int .u8 112, .int .u8 117, .int .u8 98, .int .u8 108, .int .u8 105, .int .u8 99] 5 (6, 7))) := (Below.refl _ _).alloc (Nat.le_refl _) _
  have p2 := p1.next hbA
  have s2 := hs1'.out.below hbA
  have L2 := hL.below p2.bel hL.two
  have hgl := hs1'.out.lt
  refine (smWrite_at g [] _ 6 6 Ot.txPublic rfl (by decide) (by decide) (by decide) _ L2.l s2 (six_bytes w1 _) (fun _ x hx => by cases hx; show w1.heap.size ≠ _; omega)).mono ?_
  rintro e w2 ⟨rfl, s3, hg3⟩
  rw [List.nil_append] at s3
  have p3 := p2.g hg3 (by have := hg.out; omega) (by have := hg.out; omega)
  have s3' := hidIt s3
  have e0 := p3.c0
  have e1 := p3.c1
  clear p1 p2 s2 L2 s3 hg3 hbA hs1' kc hgl
  go_wp2_with (fail)
  refine (dC.out _).mono ?_
  rintro e w3 ⟨rfl, hb3⟩
  have p4 := hidIt (p3.next hb3).bel
  have s4 := hidIt (s3'.out.below hb3)
  clear hb3 p3 s3' e0 e1 dC hGw
  go_wp2_with (fail)
  go_loopw [14] (fun i wr => ∃ k : Nat, i = .int .i64 (k : Int) ∧ k ≤ n ∧ SR wr g (Ot.endsTo E k) ∧ Below w.heap.size w wr) (fun i _ => n - (intOf i).toNat)
  case atStart => exact ⟨0, rfl, by omega, s4.out, p4.out⟩
  case round =>
    obtain ⟨k, rfl, hk, hS, hb⟩ := hrel
    clear s4 p4
    by_cases hlt : k < n
    · obtain ⟨y, hy⟩ : ∃ y, Hid (E k = y) := ⟨_, rfl⟩
      have hy32 : Hid (y.size = 32) := by show _ = _; rw [← hy.out]; exact hE2.out k hlt
      have dF : Hid (∀ W, Below w.heap.size w W → Calls Tryd.prog 58 #[.int .i64 (k : Int), .pointer (some ⟨D, 0, none⟩), .pointer (some ⟨G, 0, none⟩), .pointer (some ⟨P, 0, none⟩)] W fun e w' => e = .returned (.string y) ∧ Below W.heap.size W w') := fun W hW => hy.out ▸ hF.out k W hW hlt
      have hS2 := hidIt hS
      have hb2 := hidIt hb
      clear hS hb
      go_wp2_with (fail)
      refine (dF.out _ hb2.out).mono ?_
      rintro e w5 ⟨rfl, hb5⟩
      obtain ⟨cp, w6, hcv, hby, hb6, hc6, hlt6⟩ := conv_to y w5
      obtain ⟨ds, hds⟩ : ∃ ds, Hid (ofStr y = ds) := ⟨_, rfl⟩
      have hd256 : Hid (∀ x ∈ ds, x < 256) := by rw [← hds.out]; exact ofStr_lt y
      have hdl : Hid (y.size = ds.length) := by show _ = _; rw [← hds.out, ofStr_len]
      rw [hds.out] at hby
      have H6 := hidIt (below_then (below_then hb2.out hb5) hb6)
      have s6 := hidIt ((hS2.out.below hb5).below hb6)
      have L6 := hidIt (hL.below H6.out hL.two)
      have hg5 := hidIt (Nat.lt_of_lt_of_le hS2.out.lt hb5.size)
      have hby6 := hidIt hby
      have hc62 := hidIt hc6
      clear hb5 hb6 hby hlt6 hc6
      go_wp2_with (fail)
      refine (smWrite_at g (Ot.endsTo E k) _ y.size cp ds hdl.out hd256.out (by rw [hlen.out k hk, ← hdl.out, hy32.out]; omega) (by rw [← hdl.out]; exact hc62.out) _ L6.out.l s6.out hby6.out (fun _ x hx => by cases hx; show w5.heap.size ≠ g; have := hg5.out; omega)).mono ?_
      rintro e w7 ⟨rfl, s7, hg7⟩
      have s7' : Hid (SR w7 g (Ot.endsTo E (k + 1))) := by
        show SR w7 g (Ot.endsTo E k ++ ofStr (E k))
        rw [hy.out, hds.out]; exact s7
      have H7 := hidIt (H6.out.grown hg7 H6.out.size (fun q hq => by cases hq; exact hgB.out))
      clear s7 hg7 hcv
      go_wp2_with (fail)
      go_roundw
      case rel => exact ⟨k + 1, by go_num, by omega, s7'.out, H7.out⟩
      case measure => simp [intOf]; omega
    · have hkn : Hid (k = n) := by show _ = _; omega
      have hS2 : Hid (SR wr g (Ot.endsTo E n)) := by have := hS; rwa [hkn.out] at this
      have hb2 := hidIt hb
      have L2 := hL.below hb hL.two
      clear hS hb hkn hk
      go_wp2_with (fail)
      refine (smSum_any g _ (by rw [hlen.out n (Nat.le_refl _)]; omega) _ L2.l hS2.out).mono ?_
      rintro e w4 ⟨rfl, hb5⟩
      have HB := hidIt (below_then hb2.out hb5)
      obtain ⟨z, hz⟩ : ∃ z, Hid (str (Sh.sum (Ot.endsTo E n)) = z) := ⟨_, rfl⟩
      rw [hz.out]
      clear hb5 L2
      go_wp2_with (fail)
      go_ret
      exact ⟨by rw [hz.out]; rfl, HB.out⟩
end Go.Proofs.YtegfbmekpmdcaaaDoor
