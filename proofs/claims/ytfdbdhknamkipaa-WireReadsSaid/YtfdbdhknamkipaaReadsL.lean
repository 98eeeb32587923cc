import Derived.Test.YtfdbdhknamkipaaRdX
namespace Go.Proofs.Ytfdbdhknamkipaa
open Go.RowKit
/-- the state of a reader after k values are told to it, those of unknown kinds passed over -/
def sK (bs : List Nat) (V : Nat → RV) : Nat → Nat × Nat × Nat
  | 0 => (0, 0, 0)
  | k + 1 => if (V k).kind = 0 ∨ (1 ≤ (V k).kind ∧ (V k).kind ≤ 7) then (rstep bs (V k).kind (V k).most (sK bs V k).1 (sK bs V k).2.1 (sK bs V k).2.2).2 else sK bs V k
theorem sK_yes {bs : List Nat} {V : Nat → RV} {k : Nat} (h : (V k).kind = 0 ∨ (1 ≤ (V k).kind ∧ (V k).kind ≤ 7)) : sK bs V (k + 1) = (rstep bs (V k).kind (V k).most (sK bs V k).1 (sK bs V k).2.1 (sK bs V k).2.2).2 := by
  show (if _ then _ else _) = _; rw [if_pos h]
theorem sK_no {bs : List Nat} {V : Nat → RV} {k : Nat} (h : ¬ ((V k).kind = 0 ∨ (1 ≤ (V k).kind ∧ (V k).kind ≤ 7))) : sK bs V (k + 1) = sK bs V k := by
  show (if _ then _ else _) = _; rw [if_neg h]
/-- the two reads give the same value, the same place and the same error -/
theorem xr {bs : List Nat} {kind most : Int} {pos last lx err : Nat} (hk : kind = 0 ∨ (1 ≤ kind ∧ kind ≤ 7)) (hl : err = 0 → lx = last) :
    (xstep bs kind most pos lx err).1 = (rstep bs kind most pos last err).1 ∧ (xstep bs kind most pos lx err).2.1 = (rstep bs kind most pos last err).2.1 ∧ (xstep bs kind most pos lx err).2.2.2 = (rstep bs kind most pos last err).2.2.2 ∧ ((rstep bs kind most pos last err).2.2.2 = 0 → (xstep bs kind most pos lx err).2.2.1 = (rstep bs kind most pos last err).2.2.1) := by
  unfold xstep rstep
  by_cases he : err ≠ 0
  · rw [if_pos he, if_pos he]
    exact ⟨rfl, rfl, rfl, fun h => absurd h he⟩
  · rw [if_neg he, if_neg he]
    have hl' := hl (by simpa using he)
    by_cases k0 : kind = 0
    · rw [if_pos k0, if_pos k0, hl']
      exact ⟨rfl, rfl, rfl, fun h => rfl⟩
    · rw [if_neg k0, if_neg k0, if_neg (by omega)]
      cases hv : rdV bs kind most pos with
      | inl er => exact ⟨rfl, rfl, rfl, fun h => absurd h (rdV_err hv)⟩
      | inr q => exact ⟨rfl, rfl, rfl, fun _ => rfl⟩
theorem refRead_any (X : Nat) (a : Option Addr) (cap : Nat) (bs : List Nat) (pos last err : Nat) (kind most : Int) (hk : kind = 0 ∨ (1 ≤ kind ∧ kind ≤ 7)) (hm2 : most ≤ 9223372036854775807) (hsz : bs.length ≤ 1000) (hcap : bs.length ≤ cap) (hlt : ∀ x ∈ bs, x < 256) (w : World) (h : RX w X a cap bs pos last err) :
    Calls Try.prog 17 #[.pointer (some ⟨X, 0, none⟩), .int .i64 kind, .int .i64 most] w (XPost X a cap bs w (xstep bs kind most pos last err)) := by
  by_cases he : err = 0
  · subst he
    rcases hk with k0 | ⟨k1, k7⟩
    · subst k0
      have e : xstep bs 0 most pos last 0 = (zeroV 0 most, last, last, 3) := by unfold xstep; rw [if_neg (by simp), if_pos rfl]
      rw [e]
      exact refRead_0 X a cap bs pos last most w h
    · exact refRead_k X a cap bs pos last kind most k1 k7 hm2 hsz hcap hlt w h
  · have e : xstep bs kind most pos last err = (zeroV kind most, pos, last, err) := by unfold xstep; rw [if_pos he]
    rw [e]
    exact refRead_err X a cap bs pos last err kind most he w h
theorem RX.keep {w w' : World} {X R : Nat} {a : Option Addr} {cap : Nat} {bs : List Nat} {pos last err : Nat} (h : RX w X a cap bs pos last err) (hg : w.grownBy w' (some R)) (hRX : R ≠ X) (haR : ∀ x, a = some x → x.block ≠ R ∨ bs.length = 0) : RX w' X a cap bs pos last err :=
  ⟨(hg.block X (lt_of_row h.row) (fun e => by cases e; exact hRX rfl)).trans h.row, fun i hi => by
    obtain ⟨b, off, h1, h2⟩ := h.by' i hi
    have hne : b ≠ R := by
      rcases haR _ h1 with h3 | h3
      · exact h3
      · omega
    exact ⟨b, off, h1, (World.cell?_of_block (a := ⟨b, off + i, none⟩) (hg.block b (bytes_lt h2) (fun e => by cases e; exact hne rfl))).trans h2⟩, h.ne, h.le, h.lastle⟩
theorem rEndX (R : Nat) (a : Option Addr) (cap : Nat) (bs : List Nat) (pos last err : Nat) (w : World) (h : RDt w R a cap bs (pos, last, err)) :
    Calls Try.prog 19 #[.pointer (some ⟨R, 0, none⟩)] w fun e w' => e = .returned (.tuple #[.int .i64 pos, .int .i64 (endX bs pos err)]) ∧ ∃ m, w' = w.drewN m := by
  by_cases he : err = 0
  · subst he
    have hle : pos ≤ bs.length := RD.le h
    by_cases hp : pos < bs.length
    · have e : endX bs pos 0 = 3 := by unfold endX; rw [if_pos ⟨rfl, hp⟩]
      rw [e]
      exact rEnd_left R a cap bs pos last w h hp
    · have e : endX bs pos 0 = 0 := by unfold endX; rw [if_neg (by omega)]
      rw [e]
      exact rEnd_ok R a cap bs pos last w h (by omega)
  · have e : endX bs pos err = err := by unfold endX; rw [if_neg (by omega)]
    rw [e]
    exact rEnd_err R a cap bs pos last err w h he
set_option maxRecDepth 100000 in
set_option maxHeartbeats 8000000 in
theorem wreads_walk (a a1 : Option Addr) (len cap len1 cap1 : Nat) (bs : List Nat) (V : Nat → RV) (w : World) (h0 : RowB w a len cap bs) (h1 : VR w a1 len1 V) (hc1 : len1 ≤ cap1) :
    Calls Try.prog 4 #[.slice a len cap, .slice a1 len1 cap1] w fun e w' => e = .returned (.bool true) ∧ Below w.heap.size w w' := by
  obtain ⟨hB, rfl, hnil, hlt, hcap, -⟩ := h0
  have BB := hidIt hB
  have Vh := hidIt h1
  have hlth := hidIt hlt
  have hnilh := hidIt hnil
  clear hB h1 hlt hnil
  by_cases t1 : (bs.length : Int) > 1000
  · go_enter Try.func4, Try.ntmps4
    go_wp2_with (fail)
    refine (awake_any _).mono ?_
    rintro e w1 ⟨rfl, hb1⟩
    have H1 := hidIt hb1
    clear hb1
    go_wp2_with (fail)
    go_ret
    exact ⟨rfl, H1.out⟩
  by_cases t2 : (len1 : Int) > 40
  · go_enter Try.func4, Try.ntmps4
    go_wp2_with (fail)
    refine (awake_any _).mono ?_
    rintro e w1 ⟨rfl, hb1⟩
    have H1 := hidIt hb1
    clear hb1
    go_wp2_with (fail)
    go_ret
    exact ⟨rfl, H1.out⟩
  · have hsz0 : bs.length ≤ 1000 := by omega
    have hsz : bs.length ≤ 140737488355328 := by omega
    have hl1 : len1 ≤ 40 := by omega
    have haw : Hid (∀ x, a = some x → x.block < w.heap.size ∨ bs.length = 0) := fun x hx => by
      rcases Nat.eq_zero_or_pos bs.length with h | h
      · exact Or.inr h
      · obtain ⟨b, off, e1, e2⟩ := BB.out 0 h
        rw [hx] at e1
        cases e1
        exact Or.inl (bytes_lt e2)
    go_enter Try.func4, Try.ntmps4
    go_wp2_with (fail)
    refine (awake_any _).mono ?_
    rintro e w1 ⟨rfl, hb1⟩
    have H1 := hidIt hb1
    clear hb1
    go_wp2_with (fail)
    refine (newReader_any a cap bs hsz _ (BB.out.below H1.out) hnilh.out).mono ?_
    rintro e w2 ⟨R, ra, rc, rfl, hR, hb2, hRw, -⟩
    have hRw2 : Hid (w.heap.size ≤ R) := by show _ ≤ _; have := H1.out.size; omega
    have H2 := hidIt (below_then H1.out hb2)
    obtain ⟨X, hX⟩ : ∃ X, Hid (w2.heap.size = X) := ⟨_, rfl⟩
    have hRX : Hid (R < X) := by show _ < _; have := RD.lt hR; have := hX.out; omega
    have hraX : Hid (∀ x, ra = some x → x.block < X ∨ bs.length = 0) := fun x hx => by
      rcases Nat.eq_zero_or_pos bs.length with h | h
      · exact Or.inr h
      · obtain ⟨b, off, e1, e2⟩ := hR.bytes 0 h
        rw [hx] at e1
        cases e1
        left
        have := bytes_lt e2
        have := hX.out
        show b < X
        omega
    have haR : Hid (∀ x, a = some x → x.block ≠ R ∨ bs.length = 0) := fun x hx => by
      rcases haw.out x hx with h | h
      · left; have := hRw2.out; omega
      · exact Or.inr h
    have R3 : Hid (RDt (w2.alloc (.cells #[.slice a bs.length cap, .int .i64 0, .int .i64 0, .int .i64 0] 34)) R ra rc bs (sK bs V 0)) := RD.alloc hR _
    have X3 : Hid (RX (w2.alloc (.cells #[.slice a bs.length cap, .int .i64 0, .int .i64 0, .int .i64 0] 34)) X a cap bs (sK bs V 0).1 0 (sK bs V 0).2.2) :=
      ⟨by rw [← hX.out]; exact heap_alloc_new _ _, Bytes.below (BB.out.below H2.out) ((Below.refl _ _).alloc (Nat.le_refl _) _), fun x hx => by
        rcases haw.out x hx with h | h
        · left; have := H2.out.size; have := hX.out; omega
        · exact Or.inr h, Nat.zero_le _, Nat.zero_le _⟩
    have H3 : Hid (Below w.heap.size w (w2.alloc (.cells #[.slice a bs.length cap, .int .i64 0, .int .i64 0, .int .i64 0] 34))) := H2.out.alloc H2.out.size _
    clear hR hb2 hRw H1 H2 hnilh
    go_wp2_with (fail)
    rw [hX.out]
    go_loopw [7] (fun i wr => ∃ k lx : Nat, k ≤ len1 ∧ i = .int .i64 k ∧ Hid (RDt wr R ra rc bs (sK bs V k)) ∧ Hid (RX wr X a cap bs (sK bs V k).1 lx (sK bs V k).2.2) ∧ Hid ((sK bs V k).2.2 = 0 → lx = (sK bs V k).2.1) ∧ Hid (Below w.heap.size w wr)) (fun i _ => len1 - (intOf i).toNat)
    case atStart => exact ⟨0, 0, by omega, rfl, R3, X3, fun _ => rfl, H3⟩
    case round =>
      obtain ⟨k, lx, hk, rfl, hR, hX', hlx, hb⟩ := hrel
      clear R3 X3 H3
      by_cases hk2 : k < len1
      · obtain ⟨b, off, rfl, hr, -⟩ := (Vh.out.below hb.out).blk k hk2
        have hkk := hidIt (Vh.out.ok k hk2)
        have c0 : wr.cell? ⟨b, off + k * 6, none⟩ = some (.int .i64 (V k).kind) := hr 0 _ rfl
        have c5 : wr.cell? ⟨b, off + k * 6 + 5, none⟩ = some (.int .i64 (V k).most) := hr 5 _ rfl
        have tt : k < cap1 := by omega
        clear hr
        by_cases hkn : (V k).kind = 0 ∨ (1 ≤ (V k).kind ∧ (V k).kind ≤ 7)
        · have hxr := xr (bs := bs) (most := (V k).most) (pos := (sK bs V k).1) (last := (sK bs V k).2.1) (lx := lx) (err := (sK bs V k).2.2) hkn hlx.out
          have hsk := sK_yes (bs := bs) hkn
          have gk : Hid (∀ W, RDt W R ra rc bs (sK bs V k) → Calls Try.prog 16 #[.pointer (some ⟨R, 0, none⟩), .int .i64 (V k).kind, .int .i64 (V k).most] W fun e w' => e = .returned (rstep bs (V k).kind (V k).most (sK bs V k).1 (sK bs V k).2.1 (sK bs V k).2.2).1.val ∧ RDt w' R ra rc bs (sK bs V (k + 1)) ∧ W.grownBy w' (some R)) := fun W hW => by
            rw [hsk]
            exact get_any R ra rc bs _ _ _ _ _ hkk.out.m1 hkk.out.m2 hsz hlth.out W hW
          have xk : Hid (∀ W, RX W X a cap bs (sK bs V k).1 lx (sK bs V k).2.2 → Calls Try.prog 17 #[.pointer (some ⟨X, 0, none⟩), .int .i64 (V k).kind, .int .i64 (V k).most] W fun e w' => e = .returned (rstep bs (V k).kind (V k).most (sK bs V k).1 (sK bs V k).2.1 (sK bs V k).2.2).1.val ∧ (∃ lx', RX w' X a cap bs (sK bs V (k + 1)).1 lx' (sK bs V (k + 1)).2.2 ∧ ((sK bs V (k + 1)).2.2 = 0 → lx' = (sK bs V (k + 1)).2.1)) ∧ W.grownBy w' (some X)) := fun W hW => by
            refine (refRead_any X a cap bs _ _ _ _ _ hkn hkk.out.m2 hsz0 hcap hlth.out W hW).mono ?_
            rintro e w' ⟨h1, h2, h3⟩
            rw [hsk]
            obtain ⟨y1, y2, y3, y4⟩ := hxr
            rw [y1] at h1
            rw [y2, y3] at h2
            exact ⟨h1, ⟨_, h2, y4⟩, h3⟩
          have CL : Hid (∀ W, RDt W R ra rc bs (sK bs V (k + 1)) → Calls Try.prog 18 #[.pointer (some ⟨R, 0, none⟩)] W fun e w' => e = .returned (.int .i64 ((bs.length : Int) - ((sK bs V (k + 1)).1 : Int))) ∧ ∃ m, w' = W.drewN m) := fun W hW => by
            have := left_any R ra rc bs _ _ _ W hW
            rw [show ((bs.length - (sK bs V (k + 1)).1 : Nat) : Int) = (bs.length : Int) - ((sK bs V (k + 1)).1 : Int) by have := hW.le; omega] at this
            exact this
          have kn : Hid (¬ (V k).kind = 0 → ∀ W, Calls Try.prog 15 #[.int .i64 (V k).kind] W fun e w' => e = .returned (.bool true) ∧ W = w') := fun h W => by have := known_any (V k).kind W; rw [decide_eq_true (show 1 ≤ (V k).kind ∧ (V k).kind ≤ 7 by omega)] at this; exact this
          generalize (rstep bs (V k).kind (V k).most (sK bs V k).1 (sK bs V k).2.1 (sK bs V k).2.2).1 = v at gk xk
          generalize (V k).kind = kd at gk xk c0 kn
          generalize (V k).most = ms at gk xk c5
          generalize sK bs V k = q at gk xk hR hX' hlx
          obtain ⟨q', hq'⟩ : ∃ q', Hid (sK bs V (k + 1) = q') := ⟨_, rfl⟩
          rw [hq'.out] at gk xk CL
          obtain ⟨kd', uu, un, ub, us, um⟩ := v
          simp only [RV.val] at gk xk
          clear hxr hsk hkn hkk hlx
          by_cases k0 : kd = 0
          · subst k0
            go_wp2_with (fail)
            go_quiet (fail)
            have R3 : Hid (RDt (wr.drewN nq) R ra rc bs q) := RD.drewN hR.out
            have X3 := hidIt (hX'.out.below (below_drewN (Below.refl _ _) nq))
            have H3 := hidIt (below_drewN hb.out nq)
            clear hR hX' hb c0 c5
            go_wp2_with (fail)
            refine (gk.out _ R3.out).mono ?_
            rintro e w4 ⟨rfl, hR4, hg4⟩
            have R4 := hidIt hR4
            have X4 := hidIt (RX.keep X3.out hg4 (Nat.ne_of_lt hRX.out) haR.out)
            have H4 := hidIt (below_trans_g H3.out hg4 hRw2.out (RD.lt R3.out))
            clear hR4 hg4 gk R3 X3 H3
            go_wp2_with (fail)
            refine (xk.out _ X4.out).mono ?_
            rintro e w5 ⟨rfl, ⟨lx', hX5, hl5⟩, hg5⟩
            have R5 : Hid (RDt w5 R ra rc bs q') := RDt.belowB R4.out (below_g hg5 (Nat.le_refl X) (lt_of_row X4.out.row)) hRX.out hraX.out
            have H5 := hidIt (below_trans_g H4.out hg5 (by have := hRw2.out; have := hRX.out; omega) (lt_of_row X4.out.row))
            have L5 := hidIt hl5
            have X5 := hidIt hX5
            clear hX5 hg5 hl5 xk R4 X4 H4
            try clear kn
            try clear kn2
            go_wp2_with (fail)
            have R6 : Hid (RDt ((w5.alloc (.cells #[.int .i64 kd', .int .u64 uu, .int .i64 un, .bool ub, .string us, .int .i64 um] 37)).alloc (.cells #[.int .i64 kd', .int .u64 uu, .int .i64 un, .bool ub, .string us, .int .i64 um] 37)) R ra rc bs q') := RD.alloc (RD.alloc R5.out _) _
            have X6 : Hid (RX ((w5.alloc (.cells #[.int .i64 kd', .int .u64 uu, .int .i64 un, .bool ub, .string us, .int .i64 um] 37)).alloc (.cells #[.int .i64 kd', .int .u64 uu, .int .i64 un, .bool ub, .string us, .int .i64 um] 37)) X a cap bs q'.1 lx' q'.2.2) := X5.out.below (below_two _ _ _)
            have H6 : Hid (Below w.heap.size w ((w5.alloc (.cells #[.int .i64 kd', .int .u64 uu, .int .i64 un, .bool ub, .string us, .int .i64 um] 37)).alloc (.cells #[.int .i64 kd', .int .u64 uu, .int .i64 un, .bool ub, .string us, .int .i64 um] 37))) := below_then H5.out (below_two _ _ _)
            have r0 := hidIt ((row_under w5 (.cells #[.int .i64 kd', .int .u64 uu, .int .i64 un, .bool ub, .string us, .int .i64 um] 37) (.cells #[.int .i64 kd', .int .u64 uu, .int .i64 un, .bool ub, .string us, .int .i64 um] 37)).trans (heap_alloc_new w5 (.cells #[.int .i64 kd', .int .u64 uu, .int .i64 un, .bool ub, .string us, .int .i64 um] 37)))
            have r1 : Hid (((w5.alloc (.cells #[.int .i64 kd', .int .u64 uu, .int .i64 un, .bool ub, .string us, .int .i64 um] 37)).alloc (.cells #[.int .i64 kd', .int .u64 uu, .int .i64 un, .bool ub, .string us, .int .i64 um] 37)).heap[w5.heap.size + 1]? = some (.cells #[.int .i64 kd', .int .u64 uu, .int .i64 un, .bool ub, .string us, .int .i64 um] 37)) := by rw [← World.size_alloc w5 (.cells #[.int .i64 kd', .int .u64 uu, .int .i64 un, .bool ub, .string us, .int .i64 um] 37)]; exact heap_alloc_new _ _
            obtain ⟨A, hA⟩ : ∃ A, Hid (w5.heap.size = A) := ⟨_, rfl⟩
            obtain ⟨w6, hw6⟩ : ∃ w6, Hid ((w5.alloc (.cells #[.int .i64 kd', .int .u64 uu, .int .i64 un, .bool ub, .string us, .int .i64 um] 37)).alloc (.cells #[.int .i64 kd', .int .u64 uu, .int .i64 un, .bool ub, .string us, .int .i64 um] 37) = w6) := ⟨_, rfl⟩
            rw [hw6.out] at R6 X6 H6 r0 r1 ⊢
            rw [hA.out] at r0 r1 ⊢
            clear hw6 hA
            have a0 : w6.cell? ⟨A, 0, none⟩ = some (.int .i64 kd') := by rw [cell_of_row w6 A 0 _ _ _ r0.out]; rfl
            have a1 : w6.cell? ⟨A, 1, none⟩ = some (.int .u64 uu) := by rw [cell_of_row w6 A 1 _ _ _ r0.out]; rfl
            have a2 : w6.cell? ⟨A, 2, none⟩ = some (.int .i64 un) := by rw [cell_of_row w6 A 2 _ _ _ r0.out]; rfl
            have a3 : w6.cell? ⟨A, 3, none⟩ = some (.bool ub) := by rw [cell_of_row w6 A 3 _ _ _ r0.out]; rfl
            have a4 : w6.cell? ⟨A, 4, none⟩ = some (.string us) := by rw [cell_of_row w6 A 4 _ _ _ r0.out]; rfl
            have a5 : w6.cell? ⟨A, 5, none⟩ = some (.int .i64 um) := by rw [cell_of_row w6 A 5 _ _ _ r0.out]; rfl
            have b0 : w6.cell? ⟨A + 1, 0, none⟩ = some (.int .i64 kd') := by rw [cell_of_row w6 (A + 1) 0 _ _ _ r1.out]; rfl
            have b1 : w6.cell? ⟨A + 1, 1, none⟩ = some (.int .u64 uu) := by rw [cell_of_row w6 (A + 1) 1 _ _ _ r1.out]; rfl
            have b2 : w6.cell? ⟨A + 1, 2, none⟩ = some (.int .i64 un) := by rw [cell_of_row w6 (A + 1) 2 _ _ _ r1.out]; rfl
            have b3 : w6.cell? ⟨A + 1, 3, none⟩ = some (.bool ub) := by rw [cell_of_row w6 (A + 1) 3 _ _ _ r1.out]; rfl
            have b4 : w6.cell? ⟨A + 1, 4, none⟩ = some (.string us) := by rw [cell_of_row w6 (A + 1) 4 _ _ _ r1.out]; rfl
            have b5 : w6.cell? ⟨A + 1, 5, none⟩ = some (.int .i64 um) := by rw [cell_of_row w6 (A + 1) 5 _ _ _ r1.out]; rfl
            have x1 := X6.out.c.2.1
            have hq1 : q'.1 ≤ bs.length := X6.out.le
            go_quiet (first | (go_at_call 18; exact Calls.quiet_of (CL.out _ (RD.drewN R6.out))))
            have R7 : Hid (RDt (w6.drewN nq) R ra rc bs q') := RD.drewN R6.out
            have X7 := hidIt (X6.out.below (below_drewN (Below.refl _ _) nq))
            have H7 := hidIt (below_drewN H6.out nq)
            clear R6 X6 H6 r0 r1 a0 a1 a2 a3 a4 a5 b0 b1 b2 b3 b4 b5 x1 CL
            go_wp2_with (fail)
            go_roundw
            case rel => exact ⟨k + 1, lx', by omega, by go_num, by rw [hq'.out]; exact R7, by rw [hq'.out]; exact X7, by rw [hq'.out]; exact L5, H7⟩
            case measure => simp [intOf]; omega
          · have kn2 := hidIt (kn.out k0)
            clear kn
            go_wp2_with (fail)
            go_quiet (fail)
            have R3 : Hid (RDt (wr.drewN nq) R ra rc bs q) := RD.drewN hR.out
            have X3 := hidIt (hX'.out.below (below_drewN (Below.refl _ _) nq))
            have H3 := hidIt (below_drewN hb.out nq)
            clear hR hX' hb c0 c5
            go_wp2_with (fail)
            refine (kn2.out _).mono ?_
            rintro e w3 ⟨rfl, rfl⟩
            go_wp2_with (fail)
            refine (gk.out _ R3.out).mono ?_
            rintro e w4 ⟨rfl, hR4, hg4⟩
            have R4 := hidIt hR4
            have X4 := hidIt (RX.keep X3.out hg4 (Nat.ne_of_lt hRX.out) haR.out)
            have H4 := hidIt (below_trans_g H3.out hg4 hRw2.out (RD.lt R3.out))
            clear hR4 hg4 gk R3 X3 H3
            go_wp2_with (fail)
            refine (xk.out _ X4.out).mono ?_
            rintro e w5 ⟨rfl, ⟨lx', hX5, hl5⟩, hg5⟩
            have R5 : Hid (RDt w5 R ra rc bs q') := RDt.belowB R4.out (below_g hg5 (Nat.le_refl X) (lt_of_row X4.out.row)) hRX.out hraX.out
            have H5 := hidIt (below_trans_g H4.out hg5 (by have := hRw2.out; have := hRX.out; omega) (lt_of_row X4.out.row))
            have L5 := hidIt hl5
            have X5 := hidIt hX5
            clear hX5 hg5 hl5 xk R4 X4 H4
            try clear kn
            try clear kn2
            go_wp2_with (fail)
            have R6 : Hid (RDt ((w5.alloc (.cells #[.int .i64 kd', .int .u64 uu, .int .i64 un, .bool ub, .string us, .int .i64 um] 37)).alloc (.cells #[.int .i64 kd', .int .u64 uu, .int .i64 un, .bool ub, .string us, .int .i64 um] 37)) R ra rc bs q') := RD.alloc (RD.alloc R5.out _) _
            have X6 : Hid (RX ((w5.alloc (.cells #[.int .i64 kd', .int .u64 uu, .int .i64 un, .bool ub, .string us, .int .i64 um] 37)).alloc (.cells #[.int .i64 kd', .int .u64 uu, .int .i64 un, .bool ub, .string us, .int .i64 um] 37)) X a cap bs q'.1 lx' q'.2.2) := X5.out.below (below_two _ _ _)
            have H6 : Hid (Below w.heap.size w ((w5.alloc (.cells #[.int .i64 kd', .int .u64 uu, .int .i64 un, .bool ub, .string us, .int .i64 um] 37)).alloc (.cells #[.int .i64 kd', .int .u64 uu, .int .i64 un, .bool ub, .string us, .int .i64 um] 37))) := below_then H5.out (below_two _ _ _)
            have r0 := hidIt ((row_under w5 (.cells #[.int .i64 kd', .int .u64 uu, .int .i64 un, .bool ub, .string us, .int .i64 um] 37) (.cells #[.int .i64 kd', .int .u64 uu, .int .i64 un, .bool ub, .string us, .int .i64 um] 37)).trans (heap_alloc_new w5 (.cells #[.int .i64 kd', .int .u64 uu, .int .i64 un, .bool ub, .string us, .int .i64 um] 37)))
            have r1 : Hid (((w5.alloc (.cells #[.int .i64 kd', .int .u64 uu, .int .i64 un, .bool ub, .string us, .int .i64 um] 37)).alloc (.cells #[.int .i64 kd', .int .u64 uu, .int .i64 un, .bool ub, .string us, .int .i64 um] 37)).heap[w5.heap.size + 1]? = some (.cells #[.int .i64 kd', .int .u64 uu, .int .i64 un, .bool ub, .string us, .int .i64 um] 37)) := by rw [← World.size_alloc w5 (.cells #[.int .i64 kd', .int .u64 uu, .int .i64 un, .bool ub, .string us, .int .i64 um] 37)]; exact heap_alloc_new _ _
            obtain ⟨A, hA⟩ : ∃ A, Hid (w5.heap.size = A) := ⟨_, rfl⟩
            obtain ⟨w6, hw6⟩ : ∃ w6, Hid ((w5.alloc (.cells #[.int .i64 kd', .int .u64 uu, .int .i64 un, .bool ub, .string us, .int .i64 um] 37)).alloc (.cells #[.int .i64 kd', .int .u64 uu, .int .i64 un, .bool ub, .string us, .int .i64 um] 37) = w6) := ⟨_, rfl⟩
            rw [hw6.out] at R6 X6 H6 r0 r1 ⊢
            rw [hA.out] at r0 r1 ⊢
            clear hw6 hA
            have a0 : w6.cell? ⟨A, 0, none⟩ = some (.int .i64 kd') := by rw [cell_of_row w6 A 0 _ _ _ r0.out]; rfl
            have a1 : w6.cell? ⟨A, 1, none⟩ = some (.int .u64 uu) := by rw [cell_of_row w6 A 1 _ _ _ r0.out]; rfl
            have a2 : w6.cell? ⟨A, 2, none⟩ = some (.int .i64 un) := by rw [cell_of_row w6 A 2 _ _ _ r0.out]; rfl
            have a3 : w6.cell? ⟨A, 3, none⟩ = some (.bool ub) := by rw [cell_of_row w6 A 3 _ _ _ r0.out]; rfl
            have a4 : w6.cell? ⟨A, 4, none⟩ = some (.string us) := by rw [cell_of_row w6 A 4 _ _ _ r0.out]; rfl
            have a5 : w6.cell? ⟨A, 5, none⟩ = some (.int .i64 um) := by rw [cell_of_row w6 A 5 _ _ _ r0.out]; rfl
            have b0 : w6.cell? ⟨A + 1, 0, none⟩ = some (.int .i64 kd') := by rw [cell_of_row w6 (A + 1) 0 _ _ _ r1.out]; rfl
            have b1 : w6.cell? ⟨A + 1, 1, none⟩ = some (.int .u64 uu) := by rw [cell_of_row w6 (A + 1) 1 _ _ _ r1.out]; rfl
            have b2 : w6.cell? ⟨A + 1, 2, none⟩ = some (.int .i64 un) := by rw [cell_of_row w6 (A + 1) 2 _ _ _ r1.out]; rfl
            have b3 : w6.cell? ⟨A + 1, 3, none⟩ = some (.bool ub) := by rw [cell_of_row w6 (A + 1) 3 _ _ _ r1.out]; rfl
            have b4 : w6.cell? ⟨A + 1, 4, none⟩ = some (.string us) := by rw [cell_of_row w6 (A + 1) 4 _ _ _ r1.out]; rfl
            have b5 : w6.cell? ⟨A + 1, 5, none⟩ = some (.int .i64 um) := by rw [cell_of_row w6 (A + 1) 5 _ _ _ r1.out]; rfl
            have x1 := X6.out.c.2.1
            have hq1 : q'.1 ≤ bs.length := X6.out.le
            go_quiet (first | (go_at_call 18; exact Calls.quiet_of (CL.out _ (RD.drewN R6.out))))
            have R7 : Hid (RDt (w6.drewN nq) R ra rc bs q') := RD.drewN R6.out
            have X7 := hidIt (X6.out.below (below_drewN (Below.refl _ _) nq))
            have H7 := hidIt (below_drewN H6.out nq)
            clear R6 X6 H6 r0 r1 a0 a1 a2 a3 a4 a5 b0 b1 b2 b3 b4 b5 x1 CL
            go_wp2_with (fail)
            go_roundw
            case rel => exact ⟨k + 1, lx', by omega, by go_num, by rw [hq'.out]; exact R7, by rw [hq'.out]; exact X7, by rw [hq'.out]; exact L5, H7⟩
            case measure => simp [intOf]; omega
        · have kn : Hid (∀ W, Calls Try.prog 15 #[.int .i64 (V k).kind] W fun e w' => e = .returned (.bool false) ∧ W = w') := fun W => by have := known_any (V k).kind W; rw [decide_eq_false (by omega)] at this; exact this
          have hsk := hidIt (sK_no (bs := bs) hkn)
          have k0 : ¬ (V k).kind = 0 := fun e => hkn (Or.inl e)
          generalize (V k).kind = kd at c0 kn k0
          generalize (V k).most = ms at c5
          clear hkn hkk
          go_wp2_with (fail)
          go_quiet (fail)
          have R7 : Hid (RDt (wr.drewN nq) R ra rc bs (sK bs V k)) := RD.drewN hR.out
          have X7 := hidIt (hX'.out.below (below_drewN (Below.refl _ _) nq))
          have H7 := hidIt (below_drewN hb.out nq)
          clear hR hX' hb c0 c5
          go_wp2_with (fail)
          refine (kn.out _).mono ?_
          rintro e w3 ⟨rfl, rfl⟩
          go_wp2_with (fail)
          go_roundw
          case rel => exact ⟨k + 1, lx, by omega, by go_num, by rw [hsk.out]; exact R7, by rw [hsk.out]; exact X7, by rw [hsk.out]; exact hlx, H7⟩
          case measure => simp [intOf]; omega
      · obtain rfl : k = len1 := by omega
        generalize sK bs V k = q at hR hX' hlx
        obtain ⟨p, l, er⟩ := q
        go_wp2_with (fail)
        refine (rEndX R ra rc bs p l er _ hR.out).mono ?_
        rintro e w3 ⟨rfl, m3, rfl⟩
        have X5 := hidIt (hX'.out.below (below_drewN (Below.refl _ _) m3))
        have H5 := hidIt (below_drewN hb.out m3)
        clear hR hX' hb
        go_wp2_with (fail)
        refine (refend_any X a cap bs p lx er _ X5.out).mono ?_
        rintro e w4 ⟨rfl, hb4⟩
        have H6 := hidIt (below_then H5.out hb4)
        clear hb4 X5 H5
        go_wp2_with (fail)
        go_ret
        exact ⟨rfl, H6.out⟩
end Go.Proofs.Ytfdbdhknamkipaa
