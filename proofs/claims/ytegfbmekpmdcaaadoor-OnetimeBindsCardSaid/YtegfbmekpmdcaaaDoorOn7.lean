import Derived.Test.YtegfbmekpmdcaaaDoorOn6
import Derived.Lib.SlBytesConst
namespace Go.Proofs.YtegfbmekpmdcaaaDoor
open Go.RowKit
/-- the variables of a closure: a seed in S and parameters in G, in a world behind w -/
structure PV (w : World) (S G : Nat) (sd : ByteArray) (b s : Int) (W : World) : Prop where
  sc : W.cell? ⟨S, 0, none⟩ = some (.string sd)
  c0 : W.cell? ⟨G, 0, none⟩ = some (.int .i64 b)
  c1 : W.cell? ⟨G, 1, none⟩ = some (.int .i64 s)
  lad : LaidH W
  bel : Below w.heap.size w W
theorem PV.next {w W W' : World} {S G : Nat} {sd : ByteArray} {b s : Int} (h : PV w S G sd b s W) (hb : Below W.heap.size W W') : PV w S G sd b s W' :=
  ⟨(hb.cell (p := ⟨S, 0, none⟩) (bytes_lt h.sc)).trans h.sc, (hb.cell (p := ⟨G, 0, none⟩) (bytes_lt h.c0)).trans h.c0, (hb.cell (p := ⟨G, 1, none⟩) (bytes_lt h.c1)).trans h.c1, h.lad.below hb h.lad.two, below_then h.bel hb⟩
theorem PV.drew {w W : World} {S G : Nat} {sd : ByteArray} {b s : Int} (h : PV w S G sd b s W) : PV w S G sd b s W.drew := h.next (Below.refl _ _).drew
theorem PV.behind {w W W' : World} {S G : Nat} {sd : ByteArray} {b s : Int} (hb : Below W.heap.size W W') (h : PV w S G sd b s W) : PV w S G sd b s W' := h.next hb
theorem PV.all {w W : World} {S G : Nat} {sd : ByteArray} {b s : Int} (h : PV w S G sd b s W) : PV w S G sd b s W ∧ W.cell? ⟨S, 0, none⟩ = some (.string sd) ∧ W.cell? ⟨G, 0, none⟩ = some (.int .i64 b) ∧ W.cell? ⟨G, 1, none⟩ = some (.int .i64 s) := ⟨h, h.sc, h.c0, h.c1⟩
set_option maxRecDepth 100000 in
theorem pub1_any (b s : Nat) (ho : Ot.okB b s = true) (S G : Nat) (sd : ByteArray) (ks : List Nat) (hk : Hid (ofStr sd = ks)) (h32 : (sd.size : Int) = 32) (c : Nat) (hc : c ≤ 999) (w0 w : World) (hV : PV w0 S G sd (b : Int) (s : Int) w) :
    Calls Tryd.prog 54 #[.int .i64 (c : Int), .pointer (some ⟨S, 0, none⟩), .pointer (some ⟨G, 0, none⟩)] w fun e w' => e = .returned (.string (Ot.vl ks c (Ot.las b))) ∧ Below w.heap.size w w' := by
  have d1 : Hid (∀ W, Calls Tryd.prog 41 #[.agg #[.int .i64 (b : Int), .int .i64 (s : Int)]] W fun e w' => e = .returned (.int .i64 (Ot.las b : Int)) ∧ Below W.heap.size W w') := fun W => last_any b s ho W
  have d2 : Hid (∀ W, LaidH W → Calls Tryd.prog 55 #[.string sd, .int .i64 (c : Int), .int .i64 (Ot.las b : Int)] W fun e w' => e = .returned (.string (Ot.vl ks c (Ot.las b))) ∧ Below W.heap.size W w') := fun W hW => value_any sd ks hk h32 c _ hc (Ot.las_bd b s ho).2.1 W hW
  obtain ⟨l, hl⟩ : ∃ l, Hid (Ot.las b = l) := ⟨_, rfl⟩
  obtain ⟨y, hy⟩ : ∃ y, Hid (Ot.vl ks c l = y) := ⟨_, rfl⟩
  rw [hl.out] at d1 d2 ⊢
  rw [hy.out] at d2 ⊢
  have p : PV w S G sd (b : Int) (s : Int) w := ⟨hV.sc, hV.c0, hV.c1, hV.lad, Below.refl _ _⟩
  have e0 := p.sc
  have e1 := p.c0
  have e2 := p.c1
  clear hl hy hk h32 ho hV hc
  go_enter Tryd.func54, Tryd.ntmps54
  go_wp2_with (fail)
  go_region_held3 (fun W' => PV w S G sd (b : Int) (s : Int) W' ∧ W'.cell? ⟨S, 0, none⟩ = some (.string sd) ∧ W'.cell? ⟨G, 0, none⟩ = some (.int .i64 (b : Int)) ∧ W'.cell? ⟨G, 1, none⟩ = some (.int .i64 (s : Int)))
    (first
      | exact PV.all (by assumption)
      | (go_split_ands; exact PV.all (by assumption))
      | (go_split_ands; exact PV.all (PV.drew (by assumption)))
      | (go_split_ands; exact PV.all (PV.behind (by assumption) (by assumption))))
    (first
      | (go_at_call 41; (with_reducible refine Calls.mono (d1.out _) ?_); rintro e w7 ⟨rfl, hb7⟩)
      | (go_at_call 55; (with_reducible refine Calls.mono (d2.out _ ?_) ?_); (focus (go_split_ands; exact PV.lad (by assumption))); rintro e w8 ⟨rfl, hb8⟩))
  all_goals
    go_split_ands
    have hS : PV w S G sd (b : Int) (s : Int) w8 := by assumption
    have HB := hidIt hS.bel
    clear hS d1 d2 p e0 e1 e2
    go_wp2_with (fail)
    go_ret
    exact ⟨rfl, HB.out⟩
theorem six_bytes (w : World) (fr : Nat × Nat) : Bytes (w.alloc (.cells #[.int .u8 112, .int .u8 117, .int .u8 98, .int .u8 108, .int .u8 105, .int .u8 99] 5 fr)) (some ⟨w.heap.size, 0, none⟩) Ot.txPublic := by
  intro i hi
  have h0 : i < 6 := hi
  refine ⟨_, 0, rfl, ?_⟩
  rw [cell_of_row _ _ _ _ _ _ (heap_alloc_new w _)]
  have : i = 0 ∨ i = 1 ∨ i = 2 ∨ i = 3 ∨ i = 4 ∨ i = 5 := by omega
  rcases this with rfl | rfl | rfl | rfl | rfl | rfl <;> rfl
theorem Ot.endsTo_lt {E : Nat → ByteArray} : ∀ n, ∀ x ∈ Ot.endsTo E n, x < 256
  | 0, x, h => by revert h; exact (by decide : ∀ x ∈ Ot.txPublic, x < 256) x
  | n + 1, x, h => (List.mem_append.1 h).elim (Ot.endsTo_lt n x) (ofStr_lt _ x)
theorem PS.g {w W W' : World} {G g : Nat} {b s : Int} (h : PS w G b s W) (hg : W.grownBy W' (some g)) (hne : G ≠ g) (hw : w.heap.size ≤ g) : PS w G b s W' :=
  ⟨hg.cell h.c0 (fun e => hne (by injection e)), hg.cell h.c1 (fun e => hne (by injection e)), h.bel.grown hg h.bel.size (fun q hq => by cases hq; exact hw)⟩
--A
set_option maxRecDepth 100000 in
set_option maxHeartbeats 1000000 in
theorem joinedA_any (b s : Nat) (ho : Ot.okB b s = true) (S G : Nat) (E : Nat → ByteArray) (hE : ∀ i, i < Ot.tot b s → (E i).size = 32) (w : World) (hL : LaidH w)
    (hF : Hid (∀ (i : Nat) (W : World), Below w.heap.size w W → i < Ot.tot b s → Calls Tryd.prog 54 #[.int .i64 (i : Int), .pointer (some ⟨S, 0, none⟩), .pointer (some ⟨G, 0, none⟩)] W fun e w' => e = .returned (.string (E i)) ∧ Below W.heap.size W w')) :
    Calls Tryd.prog 53 #[.agg #[.int .i64 (b : Int), .int .i64 (s : Int)], .func (.func 54) #[] #[.pointer (some ⟨S, 0, none⟩), .pointer (some ⟨G, 0, none⟩)]] w fun e w' => e = .returned (.string (str (Sh.sum (Ot.endsTo E (Ot.tot b s))))) ∧ Below w.heap.size w w' := by
  have kc := fun (w : World) (C : Array Value) (n c : Nat) => Lib.run_convert_bytes_const (P := Tryd.prog) w 66 5 C n c Tryd.underlying66 Tryd.underlying5
  have hn2 := (Ot.tot_bd b s ho).2
  have dC : Hid (∀ W, Calls Tryd.prog 18 #[.agg #[.int .i64 (b : Int), .int .i64 (s : Int)]] W fun e w' => e = .returned (.int .i64 (Ot.tot b s : Int)) ∧ Below W.heap.size W w') := fun W => chains_ok b s ho W
  obtain ⟨n, hn⟩ : ∃ n, Hid (Ot.tot b s = n) := ⟨_, rfl⟩
  rw [hn.out] at hn2 dC hF hE ⊢
  have hlen : Hid (∀ k, k ≤ n → (Ot.endsTo E k).length = 6 + 32 * k) := fun k hk => Ot.endsTo_len k fun i hi => hE i (by omega)
  have hE2 := hidIt hE
  have p0 : PS w w.heap.size (b : Int) (s : Int) (w.alloc (.cells #[.int .i64 (b : Int), .int .i64 (s : Int)] 25)) := ps_new _ _ _ _
  have La := hL.below p0.bel hL.two
  clear ho hn hE
  go_enter Tryd.func53, Tryd.ntmps53
  go_wp2_with (fail)
  refine (new_any _ La.l).mono ?_
  rintro e w1 ⟨rfl, hs1, hb1⟩
  rw [World.size_alloc] at hs1
  have p1 := p0.next hb1
  obtain ⟨G0, hG0⟩ : ∃ G0, Hid (w.heap.size = G0) := ⟨_, rfl⟩
  have hs1' := hidIt hs1
  have hgB : Hid (w.heap.size ≤ w.heap.size + 1) := Nat.le_succ _
  obtain ⟨g, hg⟩ : ∃ g, Hid (w.heap.size + 1 = g) := ⟨_, rfl⟩
  try rw [World.size_alloc]
  rw [hg.out] at hs1' hgB
  try rw [hg.out]
  have e0 := p1.c0
  have e1 := p1.c1
  have hGw := bytes_lt e0
  clear hb1 p0 hs1 La
  go_wp2_with (fail)
  have hbA : Below w1.heap.size w1 (w1.alloc (.cells #[.int .u8 112, .int .u8 117, .int .u8 98, .int .u8 108, .int .u8 105, .int .u8 99] 5 (6, 7))) := (Below.refl _ _).alloc (Nat.le_refl _) _
  have p2 := p1.next hbA
  have s2 := hs1'.out.below hbA
  have L2 := hL.below p2.bel hL.two
  have hgl := hs1'.out.lt
  refine (smWrite_at g [] _ 6 6 Ot.txPublic rfl (by decide) (by decide) (by decide) _ L2.l s2 (six_bytes w1 _) (fun _ x hx => by cases hx; show w1.heap.size ≠ _; omega)).mono ?_
  rintro e w2 ⟨rfl, s3, hg3⟩
  rw [List.nil_append] at s3
  have p3 := p2.g hg3 (by have := hg.out; omega) (by have := hg.out; omega)
  have s3' := hidIt s3
  have e0 := p3.c0
  have e1 := p3.c1
  clear p1 p2 s2 L2 s3 hg3 hbA hs1' kc hgl
  go_wp2_with (fail)
  refine (dC.out _).mono ?_
  rintro e w3 ⟨rfl, hb3⟩
  have p4 := hidIt (p3.next hb3).bel
  have s4 := hidIt (s3'.out.below hb3)
  clear hb3 p3 s3' e0 e1 dC hGw
  go_wp2_with (fail)
  go_loopw [14] (fun i wr => ∃ k : Nat, i = .int .i64 (k : Int) ∧ k ≤ n ∧ SR wr g (Ot.endsTo E k) ∧ Below w.heap.size w wr) (fun i _ => n - (intOf i).toNat)
  case atStart => exact ⟨0, rfl, by omega, s4.out, p4.out⟩
  case round =>
    obtain ⟨k, rfl, hk, hS, hb⟩ := hrel
    clear s4 p4
    by_cases hlt : k < n
    · obtain ⟨y, hy⟩ : ∃ y, Hid (E k = y) := ⟨_, rfl⟩
      have hy32 : Hid (y.size = 32) := by show _ = _; rw [← hy.out]; exact hE2.out k hlt
      have dF : Hid (∀ W, Below w.heap.size w W → Calls Tryd.prog 54 #[.int .i64 (k : Int), .pointer (some ⟨S, 0, none⟩), .pointer (some ⟨G, 0, none⟩)] W fun e w' => e = .returned (.string y) ∧ Below W.heap.size W w') := fun W hW => hy.out ▸ hF.out k W hW hlt
      have hS2 := hidIt hS
      have hb2 := hidIt hb
      clear hS hb
      go_wp2_with (fail)
      refine (dF.out _ hb2.out).mono ?_
      rintro e w5 ⟨rfl, hb5⟩
      obtain ⟨cp, w6, hcv, hby, hb6, hc6, hlt6⟩ := conv_to y w5
      obtain ⟨ds, hds⟩ : ∃ ds, Hid (ofStr y = ds) := ⟨_, rfl⟩
      have hd256 : Hid (∀ x ∈ ds, x < 256) := by rw [← hds.out]; exact ofStr_lt y
      have hdl : Hid (y.size = ds.length) := by show _ = _; rw [← hds.out, ofStr_len]
      rw [hds.out] at hby
      have H6 := hidIt (below_then (below_then hb2.out hb5) hb6)
      have s6 := hidIt ((hS2.out.below hb5).below hb6)
      have L6 := hidIt (hL.below H6.out hL.two)
      have hg5 := hidIt (Nat.lt_of_lt_of_le hS2.out.lt hb5.size)
      have hby6 := hidIt hby
      have hc62 := hidIt hc6
      clear hb5 hb6 hby hlt6 hc6
      go_wp2_with (fail)
      refine (smWrite_at g (Ot.endsTo E k) _ y.size cp ds hdl.out hd256.out (by rw [hlen.out k hk, ← hdl.out, hy32.out]; omega) (by rw [← hdl.out]; exact hc62.out) _ L6.out.l s6.out hby6.out (fun _ x hx => by cases hx; show w5.heap.size ≠ g; have := hg5.out; omega)).mono ?_
      rintro e w7 ⟨rfl, s7, hg7⟩
      have s7' : Hid (SR w7 g (Ot.endsTo E (k + 1))) := by
        show SR w7 g (Ot.endsTo E k ++ ofStr (E k))
        rw [hy.out, hds.out]; exact s7
      have H7 := hidIt (H6.out.grown hg7 H6.out.size (fun q hq => by cases hq; exact hgB.out))
      clear s7 hg7 hcv
      go_wp2_with (fail)
      go_roundw
      case rel => exact ⟨k + 1, by go_num, by omega, s7'.out, H7.out⟩
      case measure => simp [intOf]; omega
    · have hkn : Hid (k = n) := by show _ = _; omega
      have hS2 : Hid (SR wr g (Ot.endsTo E n)) := by have := hS; rwa [hkn.out] at this
      have hb2 := hidIt hb
      have L2 := hL.below hb hL.two
      clear hS hb hkn hk
      go_wp2_with (fail)
      refine (smSum_any g _ (by rw [hlen.out n (Nat.le_refl _)]; omega) _ L2.l hS2.out).mono ?_
      rintro e w4 ⟨rfl, hb5⟩
      have HB := hidIt (below_then hb2.out hb5)
      obtain ⟨z, hz⟩ : ∃ z, Hid (str (Sh.sum (Ot.endsTo E n)) = z) := ⟨_, rfl⟩
      rw [hz.out]
      clear hb5 L2
      go_wp2_with (fail)
      go_ret
      exact ⟨by rw [hz.out]; rfl, HB.out⟩
--Z
set_option maxRecDepth 100000 in
theorem public_ok (b s : Nat) (ho : Ot.okB b s = true) (sd : ByteArray) (ks : List Nat) (hk : Hid (ofStr sd = ks)) (h32 : (sd.size : Int) = 32) (w : World) (hL : LaidH w) :
    Calls Tryd.prog 28 #[.agg #[.int .i64 (b : Int), .int .i64 (s : Int)], .string sd] w fun e w' => e = .returned (.tuple #[.string (Ot.pub b s ks), .int .i64 0]) ∧ Below w.heap.size w w' := by
  have hmf : ∀ (fn : Fn) (first cap : Array Value) (w : World), (Instr.makeFunc fn first cap).run Tryd.prog w = .ok (.func fn first cap) w := fun _ _ _ _ => rfl
  have dV : Hid (∀ W, Calls Tryd.prog 17 #[.agg #[.int .i64 (b : Int), .int .i64 (s : Int)]] W fun e w' => e = .returned (.bool true) ∧ Below W.heap.size W w') := fun W => valid_ok b s ho W
  obtain ⟨w1, hw1⟩ : ∃ w1, Hid ((w.alloc (.cells #[.int .i64 (b : Int), .int .i64 (s : Int)] 25)).alloc (.cells #[.string sd] 9) = w1) := ⟨_, rfl⟩
  have V1 : PV w (w.heap.size + 1) w.heap.size sd (b : Int) (s : Int) w1 := by
    have h1 := ps_new w (b : Int) (s : Int) 25
    have hbA : Below (w.alloc (.cells #[.int .i64 (b : Int), .int .i64 (s : Int)] 25)).heap.size (w.alloc (.cells #[.int .i64 (b : Int), .int .i64 (s : Int)] 25)) ((w.alloc (.cells #[.int .i64 (b : Int), .int .i64 (s : Int)] 25)).alloc (.cells #[.string sd] 9)) := (Below.refl _ _).alloc (Nat.le_refl _) _
    have h2 := h1.next hbA
    rw [hw1.out] at h2
    refine ⟨?_, h2.c0, h2.c1, hL.below h2.bel hL.two, h2.bel⟩
    rw [← hw1.out]
    have := cell_of_row _ _ 0 _ _ _ (heap_alloc_new (w.alloc (.cells #[.int .i64 (b : Int), .int .i64 (s : Int)] 25)) (.cells #[.string sd] 9))
    rw [World.size_alloc] at this
    rw [this]; rfl
  obtain ⟨r, hr⟩ : ∃ r, Hid (Ot.pub b s ks = r) := ⟨_, rfl⟩
  rw [hr.out]
  go_enter Tryd.func28, Tryd.ntmps28
  go_wp2_with (fail)
  obtain ⟨G, hG⟩ : ∃ G, Hid (w.heap.size = G) := ⟨_, rfl⟩
  obtain ⟨S, hS⟩ : ∃ S, Hid (w.heap.size + 1 = S) := ⟨_, rfl⟩
  rw [hS.out, hG.out] at V1
  try rw [hw1.out]
  try rw [hS.out]
  try rw [hG.out]
  have e0 := V1.sc
  have e1 := V1.c0
  have e2 := V1.c1
  refine (dV.out _).mono ?_
  rintro e w2 ⟨rfl, hb2⟩
  have V2 := V1.next hb2
  clear e0 e1 e2 V1 hb2 hw1
  have e0 := V2.sc
  have e1 := V2.c0
  have e2 := V2.c1
  go_wp2_with (fail)
  refine (joinedA_any b s ho S G (fun i => Ot.vl ks i (Ot.las b)) (fun i _ => Ot.vl_size _ _ _) _ V2.lad (fun i W hW hi => pub1_any b s ho S G sd ks hk h32 i (by have := (Ot.tot_bd b s ho).2; omega) w2 W ((⟨V2.sc, V2.c0, V2.c1, V2.lad, Below.refl _ _⟩ : PV w2 S G sd (b : Int) (s : Int) w2).next hW))).mono ?_
  rintro e w3 ⟨rfl, hb3⟩
  have HB := hidIt (below_then V2.bel hb3)
  have hfin : Hid (str (Sh.sum (Ot.endsTo (fun i => Ot.vl ks i (Ot.las b)) (Ot.tot b s))) = r) := hr.out
  rw [hfin.out]
  clear hb3 V2 e0 e1 e2 dV
  go_wp2_with (fail)
  go_ret2
  exact ⟨rfl, HB.out⟩
end Go.Proofs.YtegfbmekpmdcaaaDoor
