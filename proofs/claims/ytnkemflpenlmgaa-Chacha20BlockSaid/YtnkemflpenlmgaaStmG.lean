import Derived.Test.YtnkemflpenlmgaaStmE
namespace Go.Proofs.Ytnkemflpenlmgaa
open Go.RowKit
theorem stF_zero (ks ns : List Nat) (o n : Nat) : rowA .u8 (stF ks ns o 0) n n = rowA .u8 (fun _ => 0) n 0 := by
  rw [rowA_congr (g := fun _ => 0) (fun i _ => by unfold stF; rw [if_neg (by omega)])]
  simp [rowA]
theorem st_start {w w1 : World} {n : Nat} {F I : Nat → Nat} (hF : rowA .u8 F n n = rowA .u8 (fun _ => 0) n 0) (hb : Below (w.alloc (.cells (rowA .u8 (fun _ => 0) n 0) 5)).heap.size (w.alloc (.cells (rowA .u8 (fun _ => 0) n 0) 5)) w1) :
    StR w w1.heap.size n F I ((w1.alloc (.cells (rowA .u32 (fun _ => 0) 16 0) 41)).setRow w1.heap.size (rowA .u32 I 16 16)) := by
  have hs := hb.size
  rw [World.size_alloc] at hs
  have h0 := Blk.new w 5 (rowA .u8 (fun _ => 0) n 0)
  refine ⟨?_, setRow_heap _ _ _ _ _ _ (Blk.new w1 _ _), ?_, by omega⟩
  · rw [hF]
    exact (setRow_other _ _ _ _ (by omega)).trans ((h0.below hb (by simp only [World.size_alloc]; omega)).alloc _)
  · refine below_setRow (Below.alloc ?_ (by omega) _) (by omega) _
    exact ((Below.refl _ w).alloc (Nat.le_refl _) _).trans (hb.mono (by simp only [World.size_alloc]; omega))
theorem StR.after {w wr w2 : World} {S0 n : Nat} {F I H : Nat → Nat} (R : StR w S0 n F I wr) (hb : Below wr.heap.size wr w2) :
    StR w S0 n F I ((w2.alloc (.cells (rowA .u8 (fun _ => 0) 64 0) 39)).setRow w2.heap.size (rowA .u8 H 64 64)) := by
  have h1 := R.res.lt
  have h2 := R.st.lt
  have hs := hb.size
  exact ⟨(setRow_other _ _ _ _ (by omega)).trans ((R.res.below hb h1).alloc _), (setRow_other _ _ _ _ (by omega)).trans ((R.st.below hb h2).alloc _),
    below_setRow ((R.bel.trans (hb.mono (by have := R.bel.size; omega))).alloc (by have := R.bel.size; omega) _) (by have := R.bel.size; omega) _, R.lt⟩
theorem StR.copied {w wr w2 : World} {S0 n : Nat} {F F2 I : Nat → Nat} (R : StR w S0 n F I wr) (hB : Blk w2 w.heap.size 5 (rowA .u8 F2 n n)) (hg : wr.grownBy w2 (some w.heap.size)) : StR w S0 n F2 I w2 :=
  ⟨hB, R.st.grown hg (by have := R.lt; simp; omega), R.bel.trans ⟨hg.os, hg.tape, hg.output, hg.size, fun i hi => hg.block i (by have := R.bel.size; omega) (fun e => by cases e; omega)⟩, R.lt⟩
theorem StR.count {w wr : World} {S0 n : Nat} {F I : Nat → Nat} (R : StR w S0 n F I wr) (c : Nat) : StR w S0 n F (fun k => if k = 12 then c else I k) (wr.setCell ⟨S0, 12, none⟩ (.int .u32 c)) :=
  ⟨R.res.far (by show w.heap.size ≠ S0; have := R.lt; omega) _, by have := R.st.set_ 12 (.int .u32 c); rwa [rowA_upd] at this, R.bel.setCell (by show w.heap.size ≤ S0; have := R.lt; omega) _, R.lt⟩
theorem StR.drewN {w wr : World} {S0 n : Nat} {F I : Nat → Nat} (R : StR w S0 n F I wr) (m : Nat) : StR w S0 n F I (wr.drewN m) := ⟨R.res.drewN m, R.st.drewN m, below_drewN R.bel m, R.lt⟩
theorem StR.congr {w wr : World} {S0 n : Nat} {F F2 I I2 : Nat → Nat} (R : StR w S0 n F I wr) (h : ∀ i, i < n → F i = F2 i) (h2 : ∀ i, i < 16 → I i = I2 i) : StR w S0 n F2 I2 wr :=
  ⟨by rw [← rowA_congr h]; exact R.res, by rw [← rowA_congr h2]; exact R.st, R.bel, R.lt⟩
set_option maxRecDepth 100000 in
set_option maxHeartbeats 1000000 in
theorem stream_ok (key nonce : ByteArray) (o n : Nat) (hk : key.size = 32) (hn : nonce.size = 12) (hnb : n ≤ 1048576) (hob : o + n ≤ 274877906944) (w : World) :
    Calls Try.prog 17 #[.string key, .string nonce, .int .i64 o, .int .i64 n] w fun e w' => e = .returned (.tuple #[.slice (some ⟨w.heap.size, 0, none⟩) n n, .int .i64 0]) ∧
      Bytes w' (some ⟨w.heap.size, 0, none⟩) (Cc.stream (ofStr key) (ofStr nonce) o n) ∧ Below w.heap.size w w' := by
  have hf := fun W => fit_ok key nonce hk hn W
  obtain ⟨ks, hks⟩ : ∃ ks, Hid (ofStr key = ks) := ⟨_, rfl⟩
  obtain ⟨ns, hns⟩ : ∃ ns, Hid (ofStr nonce = ns) := ⟨_, rfl⟩
  obtain ⟨I, hI⟩ : ∃ I : Nat → Nat → Nat, Hid (I = fun c k => (Cc.init ks ns c).getD k 0) := ⟨_, rfl⟩
  obtain ⟨K, hK⟩ : ∃ K : Nat → Nat → Nat, Hid (K = fun c k => (Cc.block (Cc.init ks ns c)).getD k 0) := ⟨_, rfl⟩
  have hbeg : Hid (∀ c : Nat, c < 4294967296 → ∀ W, Calls Try.prog 24 #[.string key, .string nonce, .int .u32 c] W fun e w' => e = .returned (.agg (rowA .u32 (I c) 16 16)) ∧ Below W.heap.size W w') := by
    intro c hc W
    have := begin_any key nonce c hk hn hc W
    rw [hks.out, hns.out] at this
    rw [hI.out]
    exact this
  have hblk : Hid (∀ c : Nat, c < 4294967296 → ∀ W, Calls Try.prog 25 #[.agg (rowA .u32 (I c) 16 16)] W fun e w' => e = .returned (.agg (rowA .u8 (K c) 64 64)) ∧ Below W.heap.size W w') := by
    intro c hc W
    have := block_any (Cc.init ks ns c) (by rw [← hks.out, ← hns.out]; exact Cc.init_ok (ofStr_getD_lt key) (ofStr_getD_lt nonce) hc) W
    rw [hI.out, hK.out]
    exact this
  have hIl : Hid (∀ c : Nat, c < 4294967296 → I c 12 < 4294967296 ∧ I c 12 = c) := by
    intro c hc
    rw [hI.out]
    show (Cc.init ks ns c).getD 12 0 < _ ∧ (Cc.init ks ns c).getD 12 0 = c
    rw [init_get _ _ _ _ (by omega), if_neg (by omega), if_pos rfl]
    exact ⟨hc, rfl⟩
  rw [hks.out, hns.out]
  obtain ⟨G, hG⟩ : ∃ G : Nat → Nat → Nat, Hid (G = stF ks ns o) := ⟨_, rfl⟩
  have hG0 : Hid (rowA .u8 (G 0) n n = rowA .u8 (fun _ => 0) n 0) := by show _ = _; rw [hG.out]; exact stF_zero _ _ _ _
  have hGn : Hid (∀ i, i < n → (Cc.stream ks ns o n).getD i 0 = G n (0 + i)) := by
    intro i hi
    rw [hG.out, Cc.stream_get _ _ _ _ _ hi, Nat.zero_add]
    show _ = if i < n then _ else 0
    rw [if_pos hi]
  obtain ⟨q, hq⟩ : ∃ q, o / 64 = q := ⟨_, rfl⟩
  obtain ⟨sk, hsk⟩ : ∃ sk, o % 64 = sk := ⟨_, rfl⟩
  have hosk : Hid (64 * q + sk = o + 0 ∧ sk < 64) := by show _ ∧ _; omega
  have hq32 : q ≤ 4294967296 := by omega
  obtain ⟨c, hc⟩ : ∃ c, Hid (c = q % 4294967296) := ⟨_, rfl⟩
  have hcl : c < 4294967296 := by rw [hc.out]; omega
  have o0 : decide ((o : Int) < 0) = false := by simp
  have n0 : decide ((n : Int) < 0) = false := by simp
  have n1 : decide (1048576 < (n : Int)) = false := by simp; omega
  obtain ⟨mx, hmx⟩ : ∃ mx : Nat, Hid (mx + n = 274877906944) := ⟨274877906944 - n, by show _ = _; omega⟩
  have h4 : (274877906944 : Int) - (n : Int) = (mx : Int) := by have := hmx.out; omega
  have h5 : IntKind.i64.wrap (mx : Int) = (mx : Int) := IntWalk.i64_in _ (by have := hmx.out; omega)
  have h6 : ¬ mx < o := by have := hmx.out; omega
  have h7 : decide (mx < o) = false := by simp; omega
  have q1 : (o : Int) / 64 = (q : Int) := by omega
  have q2 : Int.tmod (o : Int) 64 = (sk : Int) := by rw [Int.tmod_eq_emod_of_nonneg (by omega)]; omega
  have v1 : IntKind.i64.wrap (q : Int) = (q : Int) := IntWalk.i64_in _ (by omega)
  have v2 : IntKind.u32.wrap (q : Int) = (c : Int) := by rw [IntKind.wrap_u32, hc.out]; omega
  have hmk := makeLen n (by omega)
  have hz := zeroSt
  have hz2 := zero64
  have hsf := fun B k hk W => sliceFrom64 B k hk W
  have hnb2 := hidIt hnb
  have hob2 := hidIt hob
  clear hk hn hks hns hq hsk hob hnb
  go_enter Try.func17, Try.ntmps17
  go_wp2_with (fail)
  refine (hf _).mono ?_
  rintro e w1 ⟨rfl, rfl⟩
  go_wp2_with (fail)
  refine (hbeg.out c hcl _).mono ?_
  rintro e w1 ⟨rfl, hb1⟩
  have R0 := hidIt (st_start (F := G 0) (I := I c) hG0.out hb1)
  have hN := hidIt (Blk.new w1 41 (rowA .u32 (fun _ => 0) 16 0))
  clear hb1 hbeg hmk
  go_wp2_with (refine wpList_store_row rfl 41 _ _ rfl w1.heap.size (rowA .u32 (I c) 16 16) rfl rfl 41 (rowA .u32 (fun _ => 0) 16 0) hN.out infoSt ?c1 (rowA_one _ _ _ _) ?_)
  case c1 => rw [rowA_size, rowA_size]
  clear hN hz
  generalize (w1.alloc (.cells (rowA .u32 (fun _ => 0) 16 0) 41)).setRow w1.heap.size (rowA .u32 (I c) 16 16) = w3 at *
  generalize w1.heap.size = S0 at *
  clear o0 n0 n1 h4 h5 h6 h7 q1 q2 v1 v2 hmx hf
  go_loopw [13, 12, 14] (fun f s _ wr => ∃ b f' s' c' : Nat, f' ≤ n ∧ f = .int .i64 f' ∧ s = .int .i64 s' ∧ c' < 4294967296 ∧ Hid (c' = b % 4294967296) ∧ Hid (f' = n ∨ 64 * b + s' = o + f' ∧ s' < 64) ∧ Hid (StR w S0 n (G f') (I c') wr)) (fun f _ _ _ => n - (intOf f).toNat)
  case atStart => exact ⟨q, 0, sk, c, by omega, rfl, rfl, hcl, hc, .inr hosk.out, R0⟩
  case round =>
    clear R0 hc hosk hcl
    obtain ⟨b, f, s, c, hfn, rfl, rfl, hcl, hcb, hpos, R⟩ := hrel
    by_cases hlt : f < n
    · have hp : Hid (64 * b + s = o + f) := by rcases hpos.out with h | h; exact absurd h (by omega); exact h.1
      have hs64 : s < 64 := by rcases hpos.out with h | h; exact absurd h (by omega); exact h.2
      have hb32 : Hid (b < 4294967296) := by have := hp.out; have := hob2.out; show _ < _; omega
      have hcb2 : Hid (c = b) := by have := hb32.out; have := hcb.out; show _ = _; omega
      obtain ⟨d, hd⟩ : ∃ d, Hid (I c = d) := ⟨_, rfl⟩
      have hst := hidIt R.out.st
      rw [hd.out] at hst
      have hcall := hidIt (hblk.out c hcl)
      rw [hd.out] at hcall
      have ht1 : (f : Int) < (n : Int) := by omega
      go_wp2_with (refine wpList_load_row rfl 41 _ rfl S0 rfl 41 (rowA .u32 d 16 16) (0, 0) _ hst.out Try.underlying41 rfl infoSt ?_)
      refine (hcall.out _).mono ?_
      rintro e w4 ⟨rfl, hb4⟩
      have hN := hidIt (Blk.new w4 39 (rowA .u8 (fun _ => 0) 64 0))
      have R4 := hidIt (R.out.after (H := K c) hb4)
      have hK4 : Hid (Blk ((w4.alloc (.cells (rowA .u8 (fun _ => 0) 64 0) 39)).setRow w4.heap.size (rowA .u8 (K c) 64 64)) w4.heap.size 39 (rowA .u8 (K c) 64 64)) := setRow_heap _ _ _ _ _ _ hN.out
      clear R hst hb4
      go_wp2_with (refine wpList_store_row rfl 39 _ _ rfl w4.heap.size (rowA .u8 (K c) 64 64) rfl rfl 39 (rowA .u8 (fun _ => 0) 64 0) hN.out info64 ?c2 (rowA_one _ _ _ _) ?_)
      case c2 => rw [rowA_size, rowA_size]
      generalize (w4.alloc (.cells (rowA .u8 (fun _ => 0) 64 0) 39)).setRow w4.heap.size (rowA .u8 (K c) 64 64) = w5 at *
      generalize w4.heap.size = B at *
      clear hN
      obtain ⟨m, hm⟩ : ∃ m, m = Nat.min (64 - s) (n - f) := ⟨_, rfl⟩
      have hm1 : Hid (1 ≤ m ∧ m ≤ 64 - s ∧ m ≤ n - f) := by
        show _ ∧ _
        rw [hm]
        exact ⟨by rw [Nat.le_min]; omega, Nat.min_le_left _ _, Nat.min_le_right _ _⟩
      have hmx : Hid (m = 64 - s ∨ m = n - f) := by
        show _ ∨ _
        rw [hm]
        rcases Nat.le_total (64 - s) (n - f) with h | h
        · exact .inl (Nat.min_eq_left h)
        · exact .inr (Nat.min_eq_right h)
      obtain ⟨ys, hys⟩ : ∃ ys, Hid ((Cc.block (Cc.init ks ns b)).drop s = ys) := ⟨_, rfl⟩
      have hyl : Hid (ys.length = 64 - s) := by show _ = _; rw [← hys.out, List.length_drop, Cc.block_len]
      have hyb : Hid (Bytes w5 (some ⟨B, s, none⟩) ys) := by
        refine blk_bytes hK4.out ys hyl.out (by omega) (fun i hi => ?_)
        rw [← hys.out, hK.out, hcb2.out, List.getD_eq_getElem?_getD, List.getElem?_drop, ← List.getD_eq_getElem?_getD]
      obtain ⟨fm, hfm⟩ : ∃ fm, fm = f + m := ⟨_, rfl⟩
      have e1 : (f : Int) + (m : Int) = (fm : Int) := by omega
      have v3 : IntKind.i64.wrap (fm : Int) = (fm : Int) := IntWalk.i64_in _ (by have := hm1.out; have := hnb2.out; omega)
      have hfm2 := hidIt hfm
      have hm2 := hidIt hm
      have s1 := fun W => sliceTail w.heap.size 0 n n f hlt hlt W
      rw [Nat.zero_add] at s1
      have s2 := fun W => hsf B s hs64 W
      have hfit : Hid (f + m ≤ n) := by have := hm1.out; show _ ≤ _; omega
      clear hm hfm hK4 hcall hd hpos
      go_wp2_with (fail)
      go_region_held3 (fun _ => True)
        (first
          | trivial)
        (first
          | (refine step_copy_blk rfl _ _ (by rfl) (some ⟨w.heap.size, f, none⟩) (some ⟨B, s, none⟩) (n - f) (n - f) (64 - s) (64 - s) (by rfl) (by rfl) w.heap.size f n (G f) 5 (R4.out.res.drewN 1) ys (hyb.out.drewN 1) m hm2.out (by rw [hyl.out]; exact hm1.out.2.1) (fun _ => rfl) hfit.out ?_; intro w6 hB6 hg6))
      all_goals
        have R6 := hidIt ((R4.out.drewN 1).copied hB6 hg6)
        clear hB6 hg6 R4 hyb
        have d12 := R6.out.st.cell 12
        have z12 := R6.out.st.frozen 12
        rw [rowA_all _ _ _ _ (by omega), (hIl.out c hcl).2] at d12
        obtain ⟨c1, hc1⟩ : ∃ c1, Hid (c1 = (b + 1) % 4294967296) := ⟨_, rfl⟩
        have v4 : IntKind.u32.wrap ((c : Int) + 1) = (c1 : Int) := by rw [IntKind.wrap_u32, hc1.out, hcb2.out]; omega
        go_wp2_with (fail)
        go_roundw
        case rel =>
          refine ⟨b + 1, fm, 0, c1, by rw [hfm2.out]; exact hfit.out, rfl, rfl, by rw [hc1.out]; exact Nat.mod_lt _ (by decide), hc1, ?_, ?_⟩
          · show _ ∨ _
            have h1 := hm1.out
            have h2 := hmx.out
            have h3 := hp.out
            have h4 := hfm2.out
            omega
          · refine (R6.out.count c1).congr (fun i _ => ?_) (fun i hi => ?_)
            · rw [hG.out, hfm2.out, ← hys.out]
              exact stF_step hp.out hb32.out (by have := hm1.out; omega)
            · rw [hI.out]
              exact init_next _ _ _ _ _ hi
        case measure => have h1 := hm1.out; have h4 := hfm2.out; simp [intOf]; omega
    · obtain rfl : f = n := by omega
      have ht1 : ¬ (f : Int) < (f : Int) := by omega
      go_wp2_with (fail)
      go_ret2
      refine ⟨rfl, ?_, R.out.bel⟩
      exact blk_bytes (off := 0) R.out.res _ (Cc.stream_len _ _ _ _) (by omega) hGn.out
end Go.Proofs.Ytnkemflpenlmgaa
