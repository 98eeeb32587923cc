import Derived.Test.YtegfbmekpmdcaaaDoorRefPad
import Derived.Test.YtegfbmekpmdcaaaDoorTwo
namespace Go.Proofs.YtegfbmekpmdcaaaDoor
open Go.RowKit
theorem cut_at (b off : Nat) (bs : List Nat) (n cap lo hi : Nat) (hn : n = bs.length) (h1 : lo < hi) (h2 : hi ≤ bs.length) (h3 : bs.length ≤ cap) (W : World) :
    (Instr.slice 66 (.slice (some ⟨b, off, none⟩) n cap) (some (.int .i64 (lo : Int))) (some (.int .i64 (hi : Int))) none).run Tryd.prog W = .ok (.slice (some ⟨b, off + lo, none⟩) (hi - lo) (cap - lo)) W := by
  subst hn
  rw [sliceLH (some ⟨b, off, none⟩) bs cap lo hi (by omega) h2 h3 W, if_neg (by omega)]
  have hadd : (⟨b, off, none⟩ : Addr).add lo = ⟨b, off + lo, none⟩ := by unfold Addr.add; split <;> simp_all
  simp [hadd]
theorem cells_at {w : World} {b off : Nat} {bs : List Nat} (h : Bytes w (some ⟨b, off, none⟩) bs) (i : Nat) (hi : i < bs.length) : w.cell? ⟨b, off + i, none⟩ = some (.int .u8 (bs.getD i 0 : Nat)) := by
  obtain ⟨b', off', hx, hc⟩ := h i hi
  simp only [Option.some.injEq, Addr.mk.injEq, and_true] at hx
  obtain ⟨rfl, rfl⟩ := hx
  exact hc
theorem builtH0 : Tryd.prog.built 85 [(0, .int .u32 1779033703), (1, .int .u32 3144134277), (2, .int .u32 1013904242), (3, .int .u32 2773480762), (4, .int .u32 1359893119), (5, .int .u32 2600822924), (6, .int .u32 528734635), (7, .int .u32 1541459225)] = some (stA Sh.H0) := by kernel_rfl
theorem store_st {w : World} {g : Nat} {S X : Sh.St} (h : Blk w g 85 (stA S)) :
    (storeCells ⟨g, 0, none⟩ (stA X).toList).run Tryd.prog w = .ok () (w.setRow g (stA X)) := by
  have := run_storeCells_at Tryd.prog g 0 _ (stA X).toList 0 _ w h (by simp [stA]) (by intro v hv; simp [stA] at hv; rcases hv with rfl | rfl | rfl | rfl | rfl | rfl | rfl | rfl <;> rfl)
  rw [this]
  rfl
theorem words9 {w : World} {g : Nat} {S : Sh.St} (h : Blk w g 85 (stA S)) : Hid (Blk w g 85 (stA S)) ∧
    w.cell? ⟨g, 0, none⟩ = some (.int .u32 S.a) ∧ w.cell? ⟨g, 1, none⟩ = some (.int .u32 S.b) ∧ w.cell? ⟨g, 2, none⟩ = some (.int .u32 S.c) ∧ w.cell? ⟨g, 3, none⟩ = some (.int .u32 S.d) ∧ w.cell? ⟨g, 4, none⟩ = some (.int .u32 S.e) ∧ w.cell? ⟨g, 5, none⟩ = some (.int .u32 S.f) ∧ w.cell? ⟨g, 6, none⟩ = some (.int .u32 S.g) ∧ w.cell? ⟨g, 7, none⟩ = some (.int .u32 S.h) ∧
    w.frozen? ⟨g, 0, none⟩ = false ∧ w.frozen? ⟨g, 1, none⟩ = false ∧ w.frozen? ⟨g, 2, none⟩ = false ∧ w.frozen? ⟨g, 3, none⟩ = false ∧ w.frozen? ⟨g, 4, none⟩ = false ∧ w.frozen? ⟨g, 5, none⟩ = false ∧ w.frozen? ⟨g, 6, none⟩ = false ∧ w.frozen? ⟨g, 7, none⟩ = false := by
  obtain ⟨d0, d1, d2, d3, d4, d5, d6, d7⟩ := words8 h
  exact ⟨h, d0, d1, d2, d3, d4, d5, d6, d7, h.frozen 0, h.frozen 1, h.frozen 2, h.frozen 3, h.frozen 4, h.frozen 5, h.frozen 6, h.frozen 7⟩
theorem pad_lt (xs : List Nat) (hx : ∀ x ∈ xs, x < 256) : ∀ x ∈ Sh.pad xs, x < 256 := by
  intro x h
  simp only [Sh.pad, Sh.tail, Sh.be8, List.mem_append, List.mem_cons, List.mem_replicate, List.mem_map] at h
  rcases h with h | (rfl | ⟨_, rfl⟩) | ⟨_, _, rfl⟩
  · exact hx _ h
  · decide
  · decide
  · exact Nat.mod_lt _ (by decide)
theorem getD_lt (P : List Nat) (h : ∀ x ∈ P, x < 256) (i : Nat) : P.getD i 0 < 256 := by
  rw [List.getD_eq_getElem?_getD]
  rcases Nat.lt_or_ge i P.length with h2 | h2
  · rw [List.getElem?_eq_getElem h2]; exact h _ (List.getElem_mem _)
  · rw [List.getElem?_eq_none h2]; decide
set_option maxRecDepth 100000 in
set_option maxHeartbeats 4000000 in
theorem refsum_any (a : Option Addr) (cap : Nat) (xs : List Nat) (hx : ∀ x ∈ xs, x < 256) (hbig : xs.length ≤ 9000) (w : World) (h : Bytes w a xs) (hnil : a = none → cap = 0 ∧ xs = []) :
    Calls Tryd.prog 51 #[.slice a xs.length cap] w fun e w' => e = .returned (.string (str (Sh.sum xs))) ∧ Below w.heap.size w w' := by
  go_enter Tryd.func51, Tryd.ntmps51
  go_wp2_with (first | (refine wpList_build_is rfl 85 _ rfl (stA Sh.H0) builtH0 ?_) | (refine wpList_store_row rfl 85 _ _ rfl w.heap.size (stA Sh.H0) rfl rfl 85 Z8 (heap_alloc_new _ _) info8w rfl (stA_one _) ?_))
  obtain ⟨S0, hS0⟩ : ∃ S0, Hid (Sh.hs (Sh.pad xs) 0 = S0) := ⟨_, rfl⟩
  obtain ⟨w1, hw1, hB1, hb1⟩ : ∃ w1, Hid ((w.alloc (.cells Z8 85)).setRow w.heap.size (stA Sh.H0) = w1) ∧ Blk w1 w.heap.size 85 (stA Sh.H0) ∧ Below w.heap.size w w1 := ⟨_, rfl, setRow_heap _ _ _ _ _ _ (Blk.new w _ _), below_setRow ((Below.refl _ _).alloc (Nat.le_refl _) _) (Nat.le_refl _) _⟩
  rw [hw1.out]
  clear hw1
  have h1 := h.below hb1
  go_wp2_with (fail)
  refine (refpad_any a cap xs hbig _ h1 hnil).mono ?_
  rintro e w2 ⟨a', c', rfl, hown, hb2⟩
  obtain ⟨P, hP⟩ : ∃ P, Hid (Sh.pad xs = P) := ⟨_, rfl⟩
  have hmod : Hid (P.length % 64 = 0) := by rw [← hP.out]; exact Sh.pad_mod xs
  have hlen : Hid (P.length = xs.length + Sh.gap xs.length + 8) := by rw [← hP.out]; exact Sh.pad_len xs
  have hp256 : Hid (∀ x ∈ P, x < 256) := by rw [← hP.out]; exact pad_lt xs hx
  have hg := gap_bd xs.length
  have hp400 : P.length ≤ 9300 := by have := hlen.out; omega
  rw [hP.out] at hown
  rw [hP.out]
  obtain ⟨a2, c2, hv, hby, hblk⟩ := owned_bytes hown rfl
  simp only [Value.slice.injEq, true_and] at hv
  obtain ⟨rfl, rfl⟩ := hv
  obtain ⟨b, rfl, hbw, hcap⟩ : ∃ b, a' = some ⟨b, 0, none⟩ ∧ w1.heap.size ≤ b ∧ P.length ≤ c' := by
    rcases hown.2 with ⟨h0, h0'⟩ | ⟨b, cap', cur, hv, hb0, hgg, hle, _⟩
    · exfalso; have := hlen.out; omega
    · simp only [Value.slice.injEq, true_and] at hv
      obtain ⟨rfl, rfl⟩ := hv
      exact ⟨b, rfl, hb0, hle⟩
  have hB2 := hidIt (hB1.below hb2 hB1.lt)
  have hbel := below_then hb1 hb2
  have hlt1 := hB1.lt
  have hby2 := hidIt hby
  obtain ⟨n, hn⟩ : ∃ n, Hid (P.length = n) := ⟨_, rfl⟩
  rw [hn.out]
  have hn400 : n ≤ 9300 := by rw [← hn.out]; exact hp400
  have hcap' : n ≤ c' := by rw [← hn.out]; exact hcap
  clear hown hb2 hby hblk hB1 hb1 h1 hcap hp400 hg
  go_wp2
  go_loopw [5] (fun i wr => ∃ (k : Nat) (S : Sh.St), 64 * k ≤ n ∧ i = .int .i64 ((64 * k : Nat) : Int) ∧ Hid (Sh.hs P k = S) ∧ Blk wr w.heap.size 85 (stA S) ∧ Bytes wr (some ⟨b, 0, none⟩) P ∧ Below w.heap.size w wr) (fun i _ => n - (intOf i).toNat)
  case atStart => exact ⟨0, Sh.H0, by omega, rfl, rfl, hB2.out, hby2.out, hbel⟩
  case round =>
    obtain ⟨k, S, hk, rfl, hS, hB, hby, hb⟩ := hrel
    clear hB2 hby2 hbel hS0
    have hSok : S.Ok := hS.out ▸ Sh.hs_ok _ _
    obtain ⟨p, hp⟩ : ∃ p, Hid (64 * k = p) := ⟨_, rfl⟩
    rw [hp.out] at hk ⊢
    by_cases hlt : p < n
    · have h64 : p + 64 ≤ n := by have := hmod.out; have := hn.out; have := hp.out; omega
      obtain ⟨q, hq⟩ : ∃ q, Hid (p + 64 = q) := ⟨_, rfl⟩
      have e1 : (p : Int) + 64 = (q : Int) := by have := hq.out; omega
      have e2 : IntKind.i64.wrap (q : Int) = (q : Int) := IntWalk.i64_in _ (by have := hq.out; omega)
      have hsl := fun W => cut_at b 0 P n c' p q hn.out.symm (by have := hq.out; omega) (by have := hn.out; have := hq.out; omega) (by have := hn.out; omega) W
      rw [show q - p = 64 by have := hq.out; omega, Nat.zero_add] at hsl
      have hcells : Hid (∀ i, i < 64 → wr.cell? ⟨b, p + i, none⟩ = some (.int .u8 (P.getD (p + i) 0 : Nat))) := fun i hi => by
        have := cells_at hby (p + i) (by have := hn.out; omega)
        rwa [Nat.zero_add] at this
      obtain ⟨m, hm⟩ : ∃ m : Nat → Nat, Hid (∀ i, m i = P.getD (p + i) 0) := ⟨fun i => P.getD (p + i) 0, fun _ => rfl⟩
      have hcells2 : Hid (∀ i, i < 64 → wr.cell? ⟨b, p + i, none⟩ = some (.int .u8 (m i : Nat))) := fun i hi => by rw [hm.out i]; exact hcells.out i hi
      have hm8 : Hid (∀ i, m i < 256) := fun i => by rw [hm.out i]; exact getD_lt P hp256.out _
      have hnext : Hid (Sh.hs P (k + 1) = Sh.block S m) := by
        show _ = _
        rw [show m = fun i => P.getD (p + i) 0 from funext hm.out, ← hp.out, ← hS.out]; rfl
      have hc64 : 64 ≤ c' - p := by omega
      obtain ⟨-, d0, d1, d2, d3, d4, d5, d6, d7, -⟩ := words9 hB
      have z0 : (p : Int) < (n : Int) := by omega
      have hbn : b ≠ w.heap.size := by omega
      clear hcells hm
      go_wp2
      go_region_law (first | (go_simp; go_at_call 67; refine (refblock_any S hSok b p (c' - p) m hc64 hm8.out (wr.drewN 1) hcells2.out).mono ?_; rintro e w5 ⟨rfl, hb5⟩; obtain ⟨hB5, e0', e1', e2', e3', e4', e5', e6', e7', -⟩ := words9 ((hB.drewN 1).below hb5 hB.lt); have hst := store_st (X := Sh.block S m) hB5.out; have hsz : (stA (Sh.block S m)).size = 8 := rfl))
      obtain ⟨w6, hw6, hB6, hb6⟩ : ∃ w6, Hid (w5.setRow w.heap.size (stA (Sh.block S m)) = w6) ∧ Blk w6 w.heap.size 85 (stA (Sh.block S m)) ∧ Below w.heap.size w w6 :=
        ⟨_, rfl, setRow_heap _ _ _ _ _ _ hB5.out, below_setRow (below_then (below_drewN hb 1) hb5) (Nat.le_refl _) _⟩
      have hby6 : Bytes w6 (some ⟨b, 0, none⟩) P := by
        have h5 : Bytes w5 (some ⟨b, 0, none⟩) P := (hby.drewN 1).below hb5
        rw [← hw6.out]
        exact h5.blocks (fun x hx => by cases hx; exact setRow_other _ _ b _ (by omega))
      rw [hw6.out]
      clear hst hsz e0' e1' e2' e3' e4' e5' e6' e7' d0 d1 d2 d3 d4 d5 d6 d7 hb5 hB5 hw6 hsl hcells2 hby hB hb
      go_wp2
      go_roundw
      case rel => exact ⟨k + 1, Sh.block S m, by have := hq.out; have := hp.out; omega, by have := hq.out; have := hp.out; congr 1; omega, hnext.out, hB6, hby6, hb6⟩
      case measure => have := hq.out; simp [intOf]; omega
    · have hS9 : Hid (Sh.hs P (P.length / 64) = S) := by
        show _ = _
        rw [← hS.out]; congr 1; have := hn.out; have := hp.out; omega
      have hlt := hB.lt
      have hown0 := hidIt (show (wr.alloc (.cells #[] 5)).ownsRow (w.heap.size + 1) 5 1 (.slice (some ⟨wr.heap.size, 0, none⟩) 0 0) 0 [] from World.ownsRow_made wr #[] 0 hlt (by unfold maxLen; omega) rfl)
      have hB0 := hidIt (hB.alloc (.cells #[] 5))
      have hb0 := hb.alloc hb.size (.cells #[] 5)
      have z0 : ¬ (p : Int) < (n : Int) := by omega
      clear hB hby hb hmod hlen hp256 hnil h
      obtain ⟨i0, hi, hz0, hz1, hz2⟩ := info_parts info5
      go_wp2
      go_loopw [7, 6] (fun i v wr => ∃ k : Nat, k ≤ 8 ∧ i = .int .i64 k ∧ wr.ownsRow (w.heap.size + 1) 5 1 v (4 * k) (vals ((Sh.out S).take (4 * k))) ∧ Blk wr w.heap.size 85 (stA S) ∧ Below w.heap.size w wr) (fun i _ _ => 8 - (intOf i).toNat)
      case atStart => exact ⟨0, by omega, rfl, hown0.out, hB0.out, hb0⟩
      case round =>
        obtain ⟨k, hk, rfl, hown, hB, hb⟩ := hrel
        clear hown0 hB0 hb0 z0
        by_cases hlt : k < 8
        · have d := hB.cell k
          rw [wd_row, rowA_all _ _ _ _ hlt] at d
          have hx := wd_lt hSok k
          obtain ⟨x, hxx⟩ : ∃ x, Hid (wd S k = x) := ⟨_, rfl⟩
          rw [hxx.out] at d hx
          have hck := hidIt (show (stA S)[k]? = some (.int .u32 (x : Int)) by rw [wd_row, rowA_all _ _ _ _ hlt, hxx.out])
          obtain ⟨h0, e0⟩ : ∃ h0 : Nat, Hid (h0 = x / 16777216) := ⟨_, rfl⟩
          obtain ⟨h1, e1⟩ : ∃ h1 : Nat, Hid (h1 = x / 65536) := ⟨_, rfl⟩
          obtain ⟨h2, e2⟩ : ∃ h2 : Nat, Hid (h2 = x / 256) := ⟨_, rfl⟩
          obtain ⟨b0, f0⟩ : ∃ b0 : Nat, Hid (b0 = h0 % 256) := ⟨_, rfl⟩
          obtain ⟨b1, f1⟩ : ∃ b1 : Nat, Hid (b1 = h1 % 256) := ⟨_, rfl⟩
          obtain ⟨b2, f2⟩ : ∃ b2 : Nat, Hid (b2 = h2 % 256) := ⟨_, rfl⟩
          obtain ⟨b3, f3⟩ : ∃ b3 : Nat, Hid (b3 = x % 256) := ⟨_, rfl⟩
          have q0 : (x : Int) / 16777216 = (h0 : Int) := by have := e0.out; omega
          have q1 : (x : Int) / 65536 = (h1 : Int) := by have := e1.out; omega
          have q2 : (x : Int) / 256 = (h2 : Int) := by have := e2.out; omega
          have r0 : (h0 : Int) % 256 = (b0 : Int) := by have := f0.out; omega
          have r1 : (h1 : Int) % 256 = (b1 : Int) := by have := f1.out; omega
          have r2 : (h2 : Int) % 256 = (b2 : Int) := by have := f2.out; omega
          have r3 : (x : Int) % 256 = (b3 : Int) := by have := f3.out; omega
          have s0 : IntKind.u8.wrap (h0 : Int) = (b0 : Int) := by rw [IntKind.wrap_u8]; exact r0
          have s1 : IntKind.u8.wrap (h1 : Int) = (b1 : Int) := by rw [IntKind.wrap_u8]; exact r1
          have s2 : IntKind.u8.wrap (h2 : Int) = (b2 : Int) := by rw [IntKind.wrap_u8]; exact r2
          have s3 : IntKind.u8.wrap (x : Int) = (b3 : Int) := by rw [IntKind.wrap_u8]; exact r3
          have y0 : (0 : Int) ≤ (k : Int) := by omega
          have y1 : (k : Int) < 8 := by omega
          have hsn : Hid ((Sh.out S).take (4 * (k + 1)) = (Sh.out S).take (4 * k) ++ [b0, b1, b2, b3]) := by
            show _ = _
            rw [show 4 * (k + 1) = 4 * k + 4 by omega, List.take_add, f0.out, f1.out, f2.out, f3.out, e0.out, e1.out, e2.out, ← hxx.out]
            congr 1
            match k, hlt with
            | 0, _ | 1, _ | 2, _ | 3, _ | 4, _ | 5, _ | 6, _ | 7, _ => rfl
          have hll : (4 * k) + 4 ≤ 32 := by omega
          obtain ⟨l, hlq⟩ : ∃ l, Hid ((Sh.out S).take (4 * k) = l) := ⟨_, rfl⟩
          obtain ⟨k4, hk4⟩ : ∃ k4, Hid (4 * k = k4) := ⟨_, rfl⟩
          have hll4 : l.length = k4 := by rw [← hlq.out, ← hk4.out, List.length_take, Sh.out_len]; omega
          have hll5 := hidIt hll4
          rw [hlq.out, hk4.out] at hown
          rw [hk4.out] at hll
          have F1 : ∀ q, Value.ownBlock u6 = some q → w.heap.size + 1 ≤ q := fun q hq => (hown.lt q hq).1
          have hbs := hb.size
          have hBlt := hB.lt
          clear hll4
          go_wp2
          go_region_held3 (fun W => W.cell? ⟨w.heap.size, k, none⟩ = some (.int .u32 (x : Int)))
            (first
              | exact d
              | assumption
              | exact (((hB.alloc _).drewN 1).cell k).trans hck.out
              | exact ((((hB.alloc _).drewN 1).grown hgrow (fun e => by have := F1 _ e.symm; omega)).cell k).trans hck.out
              | (go_simp; trivial)
              | trivial)
            (first
              | (refine step_append_lies _ (by rfl) _ _ _ (by rfl) (w.heap.size + 1) 5 i0 _ 1 1 Tryd.underlying66 hi hz0 hz1 hz2 rfl (by omega) _ k4 _ (by rfl) ((hown.alloc _).drew) ⟨wr.heap.size, 0, none⟩ 4 4 [.int .u8 (b0 : Nat), .int .u8 (b1 : Nat), .int .u8 (b2 : Nat), .int .u8 (b3 : Nat)] (by rfl) (by rfl) (World.news_of_block (cs := #[.int .u8 (b0 : Nat), .int .u8 (b1 : Nat), .int .u8 (b2 : Nat), .int .u8 (b3 : Nat)]) (t := 5) (fr := (0, 0)) (heap_alloc_new wr _)) (by simp [Value.oneCell']) (by omega) (by unfold maxLen; omega) (by omega) (by simp; omega) (wr.heap.size + 1) (by simp) ?_; intro gg cap w1 hown1 hgrow _ _))
          all_goals
            have hb7 := ((hb.alloc hb.size (.cells #[.int .u8 (b0 : Nat), .int .u8 (b1 : Nat), .int .u8 (b2 : Nat), .int .u8 (b3 : Nat)] 5)).drew).grown hgrow (by simp; omega) (fun q hq => Nat.le_of_succ_le (F1 q hq))
            have hB7 := ((hB.alloc (.cells #[.int .u8 (b0 : Nat), .int .u8 (b1 : Nat), .int .u8 (b2 : Nat), .int .u8 (b3 : Nat)] 5)).drewN 1).grown hgrow (fun e => by have := F1 _ e.symm; omega)
            have hown2 : Hid (w1.ownsRow (w.heap.size + 1) 5 1 (.slice (some ⟨gg, 0, none⟩) (k4 + 4) cap) (4 * (k + 1)) (vals ((Sh.out S).take (4 * (k + 1))))) := by
              have e : 4 * (k + 1) = k4 + 4 := by have := hk4.out; omega
              show World.ownsRow ..
              rw [hsn.out, hlq.out, e]; exact owned_append (xs := l) (ys := [b0, b1, b2, b3]) hown1 rfl
            clear hown hb F1 hgrow hown1 hll q0 q1 q2 r0 r1 r2 r3 s0 s1 s2 s3 hB d
            go_wp2
            go_roundw
            case rel => exact ⟨k + 1, by omega, by go_num, hown2.out, hB7, hb7⟩
            case measure => simp [intOf]; omega
        · have R8 : wr.ownsRow (w.heap.size + 1) 5 1 u6 32 (vals (Sh.out S)) := by
            have e : k = 8 := by omega
            rw [e] at hown
            have e2 : (Sh.out S).take (4 * 8) = Sh.out S := List.take_of_length_le (by rw [Sh.out_len]; omega)
            rw [e2] at hown
            exact hown
          obtain ⟨a', cap', rfl, hby, _⟩ := owned_bytes R8 (Sh.out_len S).symm
          have hcv := conv_str wr a' (Sh.out S).length cap' (Sh.out S) rfl hby
          have hfin : Hid (Sh.sum xs = Sh.out S) := by
            show _ = _
            unfold Sh.sum
            rw [hP.out, hS9.out]
          rw [Sh.out_len] at hcv
          obtain ⟨so, hso⟩ : ∃ so, Hid (str (Sh.out S) = so) := ⟨_, rfl⟩
          rw [hso.out] at hcv
          rw [Sh.out_len]
          clear hown R8 hby hB
          go_wp2
          go_ret
          exact ⟨by rw [hfin.out, hso.out]; rfl, hb⟩
end Go.Proofs.YtegfbmekpmdcaaaDoor
