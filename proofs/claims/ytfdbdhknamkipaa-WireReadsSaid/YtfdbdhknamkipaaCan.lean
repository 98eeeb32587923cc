import Derived.Test.YtfdbdhknamkipaaCan0
import Derived.Test.YtfdbdhknamkipaaSticks
namespace Go.Proofs.Ytfdbdhknamkipaa
open Go.RowKit
theorem rdV_err {bs : List Nat} {kind most : Int} {pos er : Nat} (h : rdV bs kind most pos = .inl er) : er ≠ 0 := by
  have hl : ∀ {e}, limit bs pos most = .inl e → e ≠ 0 := fun {e} h => by have := limit_err h; omega
  have hm : ∀ {e}, measure bs pos most = .inl e → e ≠ 0 := fun {e} h => by
    unfold measure at h
    split at h
    · rename_i h2; cases h; exact hl h2
    · split at h
      · cases h; decide
      · cases h
  unfold rdV at h
  split at h
  · split at h <;> cases h; decide
  split at h
  · split at h <;> cases h; decide
  split at h
  · split at h <;> cases h; decide
  split at h
  · split at h
    · cases h
    · rename_i h2; cases h; exact hm h2
  split at h
  · split at h
    · cases h
    · rename_i h2; cases h; have := (sumAt_short h2).2; omega
  · split at h
    · cases h
    · rename_i h2; cases h; exact hl h2
theorem zeroV_ok (kind most : Int) : (zeroV kind most).ok := ⟨by show 0 < _; decide, by show _ ≤ (0 : Int); decide, by show (0 : Int) ≤ _; decide, by show (0 : Nat) ≤ _; omega⟩
theorem rstep_val {bs : List Nat} {kind most : Int} {pos last err : Nat} (hb : ∀ x ∈ bs, x < 256) (hpos : pos ≤ bs.length) (hsz : bs.length ≤ 1000) (hm : most ≤ 9223372036854775807) (k1 : 1 ≤ kind) (k7 : kind ≤ 7) :
    (rstep bs kind most pos last err).1.ok ∧ (rstep bs kind most pos last err).1.s.size ≤ 1000 := by
  by_cases he : err = 0
  · subst he
    cases h : rdV bs kind most pos with
    | inl er => rw [rstep_bad (by omega) (by omega) h]; exact ⟨zeroV_ok _ _, by show (0 : Nat) ≤ _; omega⟩
    | inr q =>
      obtain ⟨v, p⟩ := q
      rw [rstep_ok (by omega) (by omega) h]
      have := rdV_ok hb hpos hsz hm k1 k7 h
      exact ⟨this.ok, Nat.le_trans this.sz hsz⟩
  · rw [rstep_err he]; exact ⟨zeroV_ok _ _, by show (0 : Nat) ≤ _; omega⟩
/-- the reader and the writer after k values -/
def cK (bs : List Nat) (V : Nat → RV) : Nat → (Nat × Nat × Nat) × (List Nat × Nat)
  | 0 => ((0, 0, 0), ([], 0))
  | k + 1 => if 1 ≤ (V k).kind ∧ (V k).kind ≤ 7 then ((rstep bs (V k).kind (V k).most (cK bs V k).1.1 (cK bs V k).1.2.1 (cK bs V k).1.2.2).2, putStep (cK bs V k).2 (rstep bs (V k).kind (V k).most (cK bs V k).1.1 (cK bs V k).1.2.1 (cK bs V k).1.2.2).1) else cK bs V k
theorem cK_yes {bs : List Nat} {V : Nat → RV} {k : Nat} (h : 1 ≤ (V k).kind ∧ (V k).kind ≤ 7) : cK bs V (k + 1) = ((rstep bs (V k).kind (V k).most (cK bs V k).1.1 (cK bs V k).1.2.1 (cK bs V k).1.2.2).2, putStep (cK bs V k).2 (rstep bs (V k).kind (V k).most (cK bs V k).1.1 (cK bs V k).1.2.1 (cK bs V k).1.2.2).1) := if_pos h
theorem cK_no {bs : List Nat} {V : Nat → RV} {k : Nat} (h : ¬ (1 ≤ (V k).kind ∧ (V k).kind ≤ 7)) : cK bs V (k + 1) = cK bs V k := if_neg h
structure CInv (bs : List Nat) (k : Nat) (s : (Nat × Nat × Nat) × (List Nat × Nat)) : Prop where
  le : s.1.1 ≤ bs.length
  ok : s.1.2.2 = 0 → s.2 = (bs.take s.1.1, 0)
  len : s.2.1.length ≤ 1010 * k
theorem cInv {bs : List Nat} {V : Nat → RV} {n : Nat} (hb : ∀ x ∈ bs, x < 256) (hsz : bs.length ≤ 1000) (hV : ∀ i, i < n → VK (V i)) : ∀ k, k ≤ n → CInv bs k (cK bs V k)
  | 0, _ => ⟨Nat.zero_le _, fun _ => by show ([], 0) = _; rw [show (cK bs V 0).1.1 = 0 from rfl, List.take_zero], Nat.zero_le _⟩
  | k + 1, hk => by
    have ih := cInv hb hsz hV k (by omega)
    have hv := hV k (by omega)
    by_cases hkn : 1 ≤ (V k).kind ∧ (V k).kind ≤ 7
    · rw [cK_yes hkn]
      have hval := rstep_val (last := (cK bs V k).1.2.1) (err := (cK bs V k).1.2.2) hb ih.le hsz hv.m2 hkn.1 hkn.2
      have hlen : (putStep (cK bs V k).2 (rstep bs (V k).kind (V k).most (cK bs V k).1.1 (cK bs V k).1.2.1 (cK bs V k).1.2.2).1).1.length ≤ 1010 * (k + 1) := by
        have h1 := putStep_len (cK bs V k).2 (rstep bs (V k).kind (V k).most (cK bs V k).1.1 (cK bs V k).1.2.1 (cK bs V k).1.2.2).1
        have h2 := ih.len
        have h3 := hval.2
        omega
      by_cases he : (cK bs V k).1.2.2 = 0
      · cases h : rdV bs (V k).kind (V k).most (cK bs V k).1.1 with
        | inl er =>
          have hs : rstep bs (V k).kind (V k).most (cK bs V k).1.1 (cK bs V k).1.2.1 (cK bs V k).1.2.2 = (zeroV (V k).kind (V k).most, (cK bs V k).1.1, (cK bs V k).1.1, er) := by rw [he]; exact rstep_bad (by omega) (by omega) h
          rw [hs] at hlen ⊢
          exact ⟨ih.le, fun h0 => absurd h0 (rdV_err h), hlen⟩
        | inr q =>
          obtain ⟨v, p⟩ := q
          have hs : rstep bs (V k).kind (V k).most (cK bs V k).1.1 (cK bs V k).1.2.1 (cK bs V k).1.2.2 = (v, p, (cK bs V k).1.1, 0) := by rw [he]; exact rstep_ok (by omega) (by omega) h
          have ho := rdV_ok hb ih.le hsz hv.m2 hkn.1 hkn.2 h
          rw [hs] at hlen ⊢
          refine ⟨ho.hi, fun _ => ?_, hlen⟩
          show putStep (cK bs V k).2 v = (bs.take p, 0)
          rw [ih.ok he]
          unfold putStep
          rw [if_neg (by simp), ho.put]
          show (bs.take (cK bs V k).1.1 ++ (bs.drop (cK bs V k).1.1).take (p - (cK bs V k).1.1), 0) = _
          rw [← List.take_add, show (cK bs V k).1.1 + (p - (cK bs V k).1.1) = p by have := ho.lo; omega]
      · have hs : rstep bs (V k).kind (V k).most (cK bs V k).1.1 (cK bs V k).1.2.1 (cK bs V k).1.2.2 = (zeroV (V k).kind (V k).most, (cK bs V k).1.1, (cK bs V k).1.2.1, (cK bs V k).1.2.2) := rstep_err he
        rw [hs] at hlen ⊢
        exact ⟨ih.le, fun h0 => absurd h0 he, hlen⟩
    · rw [cK_no hkn]
      exact ⟨ih.le, ih.ok, by have := ih.len; omega⟩
theorem RDt.belowB {w w' : World} {R B : Nat} {a : Option Addr} {cap : Nat} {bs : List Nat} {q : Nat × Nat × Nat} (h : RDt w R a cap bs q) (hb : Below B w w') (hR : R < B) (ha : ∀ x, a = some x → x.block < B ∨ bs.length = 0) : RDt w' R a cap bs q :=
  ⟨(hb.block R hR).trans h.row, fun j hj => by
    obtain ⟨b, off, h2, h3⟩ := h.bytes j hj
    have hb2 : b < B := by
      rcases ha _ h2 with h4 | h4
      · exact h4
      · omega
    exact ⟨b, off, h2, (World.cell?_of_block (a := ⟨b, off + j, none⟩) (hb.block b hb2)).trans h3⟩, h.ne, h.le, h.lastle, h.capge, h.capm⟩
set_option maxRecDepth 100000 in
set_option maxHeartbeats 8000000 in
theorem wcanonical_walk (a a1 : Option Addr) (len cap len1 cap1 : Nat) (bs : List Nat) (V : Nat → RV) (w : World) (h0 : RowB w a len cap bs) (h1 : VR w a1 len1 V) (hc1 : len1 ≤ cap1) :
    Calls Try.prog 6 #[.slice a len cap, .slice a1 len1 cap1] w fun e w' => e = .returned (.bool true) ∧ Below w.heap.size w w' := by
  obtain ⟨hB, rfl, hnil, hlt, hcap, -⟩ := h0
  have BB := hidIt hB
  have Vh := hidIt h1
  have hlth := hidIt hlt
  have hnilh := hidIt hnil
  clear hB h1 hlt hnil
  by_cases t1 : (bs.length : Int) > 1000
  · go_enter Try.func6, Try.ntmps6
    go_wp2_with (fail)
    refine (awake_any _).mono ?_
    rintro e w1 ⟨rfl, hb1⟩
    have H1 := hidIt hb1
    clear hb1
    go_wp2_with (fail)
    go_ret
    exact ⟨rfl, H1.out⟩
  by_cases t2 : (len1 : Int) > 40
  · go_enter Try.func6, Try.ntmps6
    go_wp2_with (fail)
    refine (awake_any _).mono ?_
    rintro e w1 ⟨rfl, hb1⟩
    have H1 := hidIt hb1
    clear hb1
    go_wp2_with (fail)
    go_ret
    exact ⟨rfl, H1.out⟩
  · have hsz0 : bs.length ≤ 1000 := by omega
    have hsz : bs.length ≤ 140737488355328 := by omega
    have hl1 : len1 ≤ 40 := by omega
    have hinv := hidIt (cInv hlth.out hsz0 Vh.out.ok)
    go_enter Try.func6, Try.ntmps6
    go_wp2_with (fail)
    refine (awake_any _).mono ?_
    rintro e w1 ⟨rfl, hb1⟩
    have H1 := hidIt hb1
    clear hb1
    go_wp2_with (fail)
    refine (newReader_any a cap bs hsz _ (BB.out.below H1.out) hnilh.out).mono ?_
    rintro e w2 ⟨R, ra, rc, rfl, hR, hb2, hRw, -⟩
    have R2 := hidIt hR
    have hRw2 : Hid (w.heap.size ≤ R) := by show _ ≤ _; have := H1.out.size; omega
    have H2 := hidIt (below_then H1.out hb2)
    clear hR hb2 hRw H1 hnilh
    go_wp2_with (fail)
    refine (newWriter_any _).mono ?_
    rintro e w3 ⟨rfl, hW3, hb3⟩
    obtain ⟨B, hB⟩ : ∃ B, Hid (w2.heap.size = B) := ⟨_, rfl⟩
    have hRB : Hid (R < B) := by show _ < _; have := RD.lt R2.out; have := hB.out; omega
    have hraB : Hid (∀ x, ra = some x → x.block < B ∨ bs.length = 0) := fun x hx => by
      rcases Nat.eq_zero_or_pos bs.length with h | h
      · exact Or.inr h
      · obtain ⟨b, off, e1, e2⟩ := R2.out.bytes 0 h
        rw [hx] at e1
        cases e1
        left
        have := bytes_lt e2
        have := hB.out
        show b < B
        omega
    rw [hB.out] at hW3 hb3 ⊢
    have W3 : Hid (WR w3 B (cK bs V 0).2.1 (cK bs V 0).2.2) := hW3
    have R3 : Hid (RDt w3 R ra rc bs (cK bs V 0).1) := RDt.belowB (q := (0, 0, 0)) R2.out hb3 hRB.out hraB.out
    have H3 : Hid (Below w.heap.size w w3) := H2.out.trans (hb3.mono (by have := hRw2.out; have := hRB.out; omega))
    clear hW3 hb3 R2 H2
    go_wp2_with (fail)
    go_loopw [7] (fun i wr => ∃ k : Nat, k ≤ len1 ∧ i = .int .i64 k ∧ Hid (RDt wr R ra rc bs (cK bs V k).1) ∧ Hid (WR wr B (cK bs V k).2.1 (cK bs V k).2.2) ∧ Hid (Below w.heap.size w wr)) (fun i _ => len1 - (intOf i).toNat)
    case atStart => exact ⟨0, by omega, rfl, R3, W3, H3⟩
    case round =>
      obtain ⟨k, hk, rfl, hR, hW, hb⟩ := hrel
      clear R3 W3 H3
      by_cases hk2 : k < len1
      · obtain ⟨b, off, rfl, hr, -⟩ := (Vh.out.below hb.out).blk k hk2
        have hkk := hidIt (Vh.out.ok k hk2)
        have c0 : wr.cell? ⟨b, off + k * 6, none⟩ = some (.int .i64 (V k).kind) := hr 0 _ rfl
        have c5 : wr.cell? ⟨b, off + k * 6 + 5, none⟩ = some (.int .i64 (V k).most) := hr 5 _ rfl
        have hbR : Hid (b ≠ R) := by
          obtain ⟨b', off', e1, -, hlt'⟩ := Vh.out.blk k hk2
          cases e1
          show _ ≠ _
          have := hRw2.out
          omega
        have hbB : Hid (b < B) := by
          obtain ⟨b', off', e1, -, hlt'⟩ := Vh.out.blk k hk2
          cases e1
          show _ < _
          have := hRw2.out
          have := hRB.out
          omega
        have tt : k < cap1 := by omega
        have ik := hidIt (hinv.out k hk)
        clear hr
        by_cases hkn : 1 ≤ (V k).kind ∧ (V k).kind ≤ 7
        · have gk : Hid (∀ W, RDt W R ra rc bs (cK bs V k).1 → Calls Try.prog 16 #[.pointer (some ⟨R, 0, none⟩), .int .i64 (V k).kind, .int .i64 (V k).most] W fun e w' => e = .returned (rstep bs (V k).kind (V k).most (cK bs V k).1.1 (cK bs V k).1.2.1 (cK bs V k).1.2.2).1.val ∧ RDt w' R ra rc bs (cK bs V (k + 1)).1 ∧ W.grownBy w' (some R)) := fun W hW => by
            rw [cK_yes hkn]
            exact get_any R ra rc bs _ _ _ _ _ hkk.out.m1 hkk.out.m2 hsz hlth.out W hW
          have hval := rstep_val (last := (cK bs V k).1.2.1) (err := (cK bs V k).1.2.2) hlth.out ik.out.le hsz0 hkk.out.m2 hkn.1 hkn.2
          have hnx : Hid ((cK bs V (k + 1)).2 = putStep (cK bs V k).2 (rstep bs (V k).kind (V k).most (cK bs V k).1.1 (cK bs V k).1.2.1 (cK bs V k).1.2.2).1) := by show _ = _; rw [cK_yes hkn]
          have kn : Hid (∀ W, Calls Try.prog 15 #[.int .i64 (V k).kind] W fun e w' => e = .returned (.bool true) ∧ W = w') := fun W => by have := known_any (V k).kind W; rw [decide_eq_true hkn] at this; exact this
          have il := ik.out.len
          generalize (rstep bs (V k).kind (V k).most (cK bs V k).1.1 (cK bs V k).1.2.1 (cK bs V k).1.2.2).1 = v at gk hval hnx
          generalize (V k).kind = kd at gk c0 kn
          generalize (V k).most = ms at gk c5
          obtain ⟨vv, hvv⟩ : ∃ vv, v.val = vv := ⟨_, rfl⟩
          rw [hvv] at gk
          generalize (cK bs V k).2 = p at hnx hW il
          have pk : Hid (∀ W, WR W B p.1 p.2 → Calls Try.prog 22 #[.pointer (some ⟨B, 0, none⟩), vv] W fun e w' => e = .returned (.tuple #[]) ∧ Below B W w' ∧ WR w' B (cK bs V (k + 1)).2.1 (cK bs V (k + 1)).2.2) := fun W hWW => by
            rw [hnx.out, ← hvv]
            exact put_any B p v hval.1 (by have := hval.2; omega) W hWW
          clear hval hvv hnx hkn hkk ik il
          go_wp2_with (fail)
          refine (kn.out _).mono ?_
          rintro e w4 ⟨rfl, rfl⟩
          go_wp2_with (fail)
          refine wp_region_held_drew (S := (fun W : World => W.cell? ⟨b, off + k * 6, none⟩ = some (.int .i64 kd) ∧ W.cell? ⟨b, off + k * 6 + 5, none⟩ = some (.int .i64 ms))) (by kernel_rfl) ⟨c0, c5⟩ (fun hHeld => ?_)
          refine wpAnyH_take_at (i := 0) (some 37) (.pointer (some ⟨B, 0, none⟩)) rfl rfl (by kernel_rfl) (by kernel_rfl) (by kernel_rfl) (fun _ _ _ h => h) (Or.inl ⟨by rfl, ?_⟩) hHeld ?_
          · (intro W hSw; clear hSw hHeld c0 c5; go_simp)
          simp only [Act.put, List.setIfInBounds_toArray, List.set_cons_zero, List.set_cons_succ]
          refine wpAnyH_take_at (i := 1) (some 38) (.pointer (some ⟨R, 0, none⟩)) rfl rfl (by kernel_rfl) (by kernel_rfl) (by kernel_rfl) (fun _ _ _ h => h) (Or.inl ⟨by rfl, ?_⟩) hHeld ?_
          · (intro W hSw; clear hSw hHeld c0 c5; go_simp)
          simp only [Act.put, List.setIfInBounds_toArray, List.set_cons_zero, List.set_cons_succ]
          refine wpAnyH_take_at (i := 2) (some 39) (.slice (some ⟨b, off, none⟩) len1 cap1) rfl rfl (by kernel_rfl) (by kernel_rfl) (by kernel_rfl) (fun _ _ _ h => h) (Or.inl ⟨by rfl, ?_⟩) hHeld ?_
          · (intro W hSw; clear hSw hHeld c0 c5; go_simp)
          simp only [Act.put, List.setIfInBounds_toArray, List.set_cons_zero, List.set_cons_succ]
          refine wpAnyH_take_at (i := 3) (some 40) (.int .i64 (k : Int)) rfl rfl (by kernel_rfl) (by kernel_rfl) (by kernel_rfl) (fun _ _ _ h => h) (Or.inl ⟨by rfl, ?_⟩) hHeld ?_
          · (intro W hSw; clear hSw hHeld c0 c5; go_simp)
          simp only [Act.put, List.setIfInBounds_toArray, List.set_cons_zero, List.set_cons_succ]
          refine wpAnyH_take_at (i := 4) (some 41) (.pointer (some ⟨b, off + k * 6, none⟩)) rfl rfl (by kernel_rfl) (by kernel_rfl) (by kernel_rfl) (fun _ _ _ h => h) (Or.inl ⟨by rfl, ?_⟩) hHeld ?_
          · (intro W hSw; clear hSw hHeld c0 c5; go_simp)
          simp only [Act.put, List.setIfInBounds_toArray, List.set_cons_zero, List.set_cons_succ]
          refine wpAnyH_take_at (i := 5) (some 42) (.pointer (some ⟨b, off + k * 6, none⟩)) rfl rfl (by kernel_rfl) (by kernel_rfl) (by kernel_rfl) (fun _ _ _ h => h) (Or.inl ⟨by rfl, ?_⟩) hHeld ?_
          · (intro W hSw; clear hSw hHeld c0 c5; go_simp)
          simp only [Act.put, List.setIfInBounds_toArray, List.set_cons_zero, List.set_cons_succ]
          refine wpAnyH_take_at (i := 6) (some 43) (.int .i64 kd) rfl rfl (by kernel_rfl) (by kernel_rfl) (by kernel_rfl) (fun _ _ _ h => h) (Or.inl ⟨by rfl, ?_⟩) hHeld ?_
          · (intro W hSw; have d0 := hSw.1; have d5 := hSw.2; clear hSw hHeld c0 c5; go_simp)
          simp only [Act.put, List.setIfInBounds_toArray, List.set_cons_zero, List.set_cons_succ]
          refine wpAnyH_take_at (i := 7) (some 44) (.slice (some ⟨b, off, none⟩) len1 cap1) rfl rfl (by kernel_rfl) (by kernel_rfl) (by kernel_rfl) (fun _ _ _ h => h) (Or.inl ⟨by rfl, ?_⟩) hHeld ?_
          · (intro W hSw; clear hSw hHeld c0 c5; go_simp)
          simp only [Act.put, List.setIfInBounds_toArray, List.set_cons_zero, List.set_cons_succ]
          refine wpAnyH_take_at (i := 8) (some 45) (.int .i64 (k : Int)) rfl rfl (by kernel_rfl) (by kernel_rfl) (by kernel_rfl) (fun _ _ _ h => h) (Or.inl ⟨by rfl, ?_⟩) hHeld ?_
          · (intro W hSw; clear hSw hHeld c0 c5; go_simp)
          simp only [Act.put, List.setIfInBounds_toArray, List.set_cons_zero, List.set_cons_succ]
          refine wpAnyH_take_at (i := 9) (some 46) (.pointer (some ⟨b, off + k * 6, none⟩)) rfl rfl (by kernel_rfl) (by kernel_rfl) (by kernel_rfl) (fun _ _ _ h => h) (Or.inl ⟨by rfl, ?_⟩) hHeld ?_
          · (intro W hSw; clear hSw hHeld c0 c5; go_simp)
          simp only [Act.put, List.setIfInBounds_toArray, List.set_cons_zero, List.set_cons_succ]
          refine wpAnyH_take_at (i := 10) (some 47) (.pointer (some ⟨b, off + k * 6 + 5, none⟩)) rfl rfl (by kernel_rfl) (by kernel_rfl) (by kernel_rfl) (fun _ _ _ h => h) (Or.inl ⟨by rfl, ?_⟩) hHeld ?_
          · (intro W hSw; clear hSw hHeld c0 c5; go_simp)
          simp only [Act.put, List.setIfInBounds_toArray, List.set_cons_zero, List.set_cons_succ]
          refine wpAnyH_take_at (i := 11) (some 48) (.int .i64 ms) rfl rfl (by kernel_rfl) (by kernel_rfl) (by kernel_rfl) (fun _ _ _ h => h) (Or.inl ⟨by rfl, ?_⟩) hHeld ?_
          · (intro W hSw; have d0 := hSw.1; have d5 := hSw.2; clear hSw hHeld c0 c5; go_simp)
          simp only [Act.put, List.setIfInBounds_toArray, List.set_cons_zero, List.set_cons_succ]
          refine wpAnyH_only (i := 12) (by kernel_rfl) rfl rfl (fun K hK => ?_)
          go_simp
          go_at_call 16
          refine (gk.out _ (show RDt wr.drew R ra rc bs _ from RD.drewN (m := 1) hR.out)).mono ?_
          rintro e w5 ⟨rfl, hR5, hg5⟩
          have R5 := hidIt hR5
          have W5 : Hid (WR w5 B p.1 p.2) := WR.low (w := wr.drew) (WR.below hW.out (below_drewN (Below.refl _ _) 1)) hg5 hRB.out
          have H5 : Hid (Below w.heap.size w w5) := (below_drewN hb.out 1).trans (below_g hg5 hRw2.out (show R < wr.heap.size from RD.lt hR.out))
          have S5 : w5.cell? ⟨b, off + k * 6, none⟩ = some (.int .i64 kd) ∧ w5.cell? ⟨b, off + k * 6 + 5, none⟩ = some (.int .i64 ms) := ⟨hg5.cell c0 (fun e => by cases e; exact hbR.out rfl), hg5.cell c5 (fun e => by cases e; exact hbR.out rfl)⟩
          refine hK.out _ _ S5 ?_
          clear hR5 hg5 gk hR hW hb kn hK K c0 c5 hHeld
          refine wpAnyH_only (i := 13) (by kernel_rfl) rfl rfl (fun K hK => ?_)
          go_simp
          go_at_call 22
          refine (pk.out _ W5.out).mono ?_
          rintro e w6 ⟨rfl, hb6, hW6⟩
          have W6 := hidIt hW6
          have R6 : Hid (RDt w6 R ra rc bs (cK bs V (k + 1)).1) := RDt.belowB R5.out hb6 hRB.out hraB.out
          have H6 : Hid (Below w.heap.size w w6) := H5.out.trans (hb6.mono (by have := hRw2.out; have := hRB.out; omega))
          have S6 : w6.cell? ⟨b, off + k * 6, none⟩ = some (.int .i64 kd) ∧ w6.cell? ⟨b, off + k * 6 + 5, none⟩ = some (.int .i64 ms) := ⟨(hb6.cell (p := ⟨b, off + k * 6, none⟩) hbB.out).trans S5.1, (hb6.cell (p := ⟨b, off + k * 6 + 5, none⟩) hbB.out).trans S5.2⟩
          refine hK.out _ _ S6 ?_
          clear hb6 hW6 W5 R5 H5 pk hK K S5 S6
          refine wpAnyH_done (by kernel_rfl) ?_ _
          go_wp2_with (fail)
          go_roundw
          case rel => exact ⟨k + 1, by omega, by go_num, R6, W6, H6⟩
          case measure => simp [intOf]; omega
        · have kn : Hid (∀ W, Calls Try.prog 15 #[.int .i64 (V k).kind] W fun e w' => e = .returned (.bool false) ∧ W = w') := fun W => by have := known_any (V k).kind W; rw [decide_eq_false hkn] at this; exact this
          have R6 : Hid (RDt wr R ra rc bs (cK bs V (k + 1)).1) := by rw [cK_no hkn]; exact hR
          have W6 : Hid (WR wr B (cK bs V (k + 1)).2.1 (cK bs V (k + 1)).2.2) := by rw [cK_no hkn]; exact hW
          generalize (V k).kind = kd at c0 kn
          clear hkn hR hW ik c5
          go_wp2_with (fail)
          refine (kn.out _).mono ?_
          rintro e w4 ⟨rfl, rfl⟩
          go_wp2_with (fail)
          go_roundw
          case rel => exact ⟨k + 1, by omega, by go_num, R6, W6, hb⟩
          case measure => simp [intOf]; omega
      · obtain rfl : k = len1 := by omega
        have ik := hinv.out k (Nat.le_refl _)
        obtain ⟨⟨⟨p, l, er⟩, ⟨zs, we⟩⟩, hs⟩ : ∃ s, Hid (cK bs V k = s) := ⟨_, rfl⟩
        rw [hs.out] at hR hW ik
        have hple : p ≤ bs.length := ik.le
        by_cases he : er = 0
        · subst he
          have hz := ik.ok rfl
          simp only [Prod.mk.injEq] at hz
          obtain ⟨hz1, hz2⟩ := hz
          by_cases hpl : p = bs.length
          · have hzb : Hid (zs = bs) := by show _ = _; rw [hz1]; show bs.take p = bs; rw [hpl, List.take_length]
            have hWw : Hid (WR wr B bs 0) := by
              have := hW.out
              simp only at this
              rw [hzb.out, hz2] at this
              exact this
            have tp : Hid ((p : Int) = (bs.length : Int)) := by show _ = _; omega
            clear ik hW hz1 hz2
            go_wp2_with (fail)
            refine (rEnd_ok R ra rc bs p l _ hR.out hpl).mono ?_
            rintro e w4 ⟨rfl, m4, rfl⟩
            have W4 : Hid (WR (wr.drewN m4) B bs 0) := WR.below hWw.out (below_drewN (Below.refl _ _) m4)
            have H4 := hidIt (below_drewN hb.out m4)
            rw [tp.out]
            clear hR hWw hb hpl tp
            generalize wr.drewN m4 = w4 at *
            go_wp2_with (fail)
            refine (done_ok B bs (by omega) _ W4.out).mono ?_
            rintro e w5 ⟨a5, c5, rfl, ho5, hb5⟩
            obtain ⟨a6, c6, hv6, hB6, -⟩ := owned_bytes ho5 rfl
            cases hv6
            have H5 := hidIt (below_then H4.out hb5)
            have B6 := hidIt hB6
            have BA := hidIt (BB.out.below H5.out)
            clear ho5 hb5 hB6 W4 H4
            go_wp2_with (fail)
            refine (same_any a a5 cap c5 bs bs true (by simp) _ BA.out B6.out (by omega)).mono ?_
            rintro e w6 ⟨rfl, m6, rfl⟩
            have H6 := hidIt (below_drewN H5.out m6)
            go_wp2_with (fail)
            go_ret
            exact ⟨rfl, H6.out⟩
          · have hpl2 : p < bs.length := by omega
            have tp : (p : Int) ≤ (bs.length : Int) := by omega
            have tp2 : (p : Int) ≥ 0 := by omega
            clear ik hW hz1 hz2
            go_wp2_with (fail)
            refine (rEnd_left R ra rc bs p l _ hR.out hpl2).mono ?_
            rintro e w4 ⟨rfl, m4, rfl⟩
            have H4 := hidIt (below_drewN hb.out m4)
            go_wp2_with (fail)
            go_ret
            exact ⟨rfl, H4.out⟩
        · have tp : (p : Int) ≤ (bs.length : Int) := by omega
          have tp2 : (p : Int) ≥ 0 := by omega
          have he2 : ((er : Int) != 0) = true := by simpa using he
          clear ik hW
          go_wp2_with (fail)
          refine (rEnd_err R ra rc bs p l er _ hR.out he).mono ?_
          rintro e w4 ⟨rfl, m4, rfl⟩
          have H4 := hidIt (below_drewN hb.out m4)
          go_wp2_with (fail)
          go_ret
          exact ⟨rfl, H4.out⟩
end Go.Proofs.Ytfdbdhknamkipaa
