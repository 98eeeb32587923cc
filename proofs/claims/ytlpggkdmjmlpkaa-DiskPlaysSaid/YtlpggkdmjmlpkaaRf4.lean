import Derived.Test.YtlpggkdmjmlpkaaRf3
import Derived.Lib.MinMax
namespace Go.Proofs.Ytlpggkdmjmlpkaa
open Go.RowKit
/-- the cells of the pending writes of the reference -/
def rpl (P PC ps : Nat → Nat) (size np : Nat) : List Value := (List.range np).flatMap fun j => [.int .i64 (ps j : Int), .slice (some ⟨P j, 0, none⟩) size (PC j)]
theorem rpl_snoc (P PC ps : Nat → Nat) (size np : Nat) : rpl P PC ps size (np + 1) = rpl P PC ps size np ++ [.int .i64 (ps np : Int), .slice (some ⟨P np, 0, none⟩) size (PC np)] := by
  simp [rpl, List.range_succ, List.flatMap_append]
theorem rpl_congr {P P' PC PC' ps ps' : Nat → Nat} {size np : Nat} (h : ∀ j, j < np → P j = P' j ∧ PC j = PC' j ∧ ps j = ps' j) : rpl P PC ps size np = rpl P' PC' ps' size np := by
  unfold rpl
  rw [List.flatMap_def, List.flatMap_def]
  congr 1
  apply List.map_congr_left
  intro j hj
  obtain ⟨e1, e2, e3⟩ := h j (List.mem_range.1 hj)
  rw [e1, e2, e3]
theorem rpl_len (P PC ps : Nat → Nat) (size : Nat) : ∀ np, (rpl P PC ps size np).length = np * 2
  | 0 => rfl
  | np + 1 => by rw [rpl_snoc, List.length_append, rpl_len P PC ps size np]; simp; omega
theorem rpl_get (P PC ps : Nat → Nat) (size : Nat) : ∀ np j, j < np → (rpl P PC ps size np)[j * 2]? = some (.int .i64 (ps j : Int)) ∧ (rpl P PC ps size np)[j * 2 + 1]? = some (.slice (some ⟨P j, 0, none⟩) size (PC j))
  | np + 1, j, h => by
    rw [rpl_snoc]
    by_cases e : j = np
    · subst e
      constructor
      · rw [List.getElem?_append_right (by rw [rpl_len]; omega), rpl_len, Nat.sub_self]; rfl
      · rw [List.getElem?_append_right (by rw [rpl_len]; omega), rpl_len, show j * 2 + 1 - j * 2 = 1 by omega]; rfl
    · obtain ⟨a, b⟩ := rpl_get P PC ps size np j (by omega)
      constructor
      · rw [List.getElem?_append_left (by rw [rpl_len]; omega)]; exact a
      · rw [List.getElem?_append_left (by rw [rpl_len]; omega)]; exact b
/-- the slice of the pending writes -/
theorem RefX.pend {w : World} {g : Nat} {dv lv : Value} {Q C P PC : Nat → Nat} {D : Dsk} (h : RefX w g dv lv Q C P PC D) : ∃ a c, lv = .slice a D.np c ∧ D.np ≤ c ∧ ∀ j, j < D.np → ∃ b, a = some ⟨b, 0, none⟩ ∧ b < w.heap.size ∧ w.cell? ⟨b, j * 2, none⟩ = some (.int .i64 (D.ps j : Int)) ∧ w.cell? ⟨b, j * 2 + 1, none⟩ = some (.slice (some ⟨P j, 0, none⟩) D.size (PC j)) := by
  rcases h.own.2 with ⟨hv, h0⟩ | ⟨b, cap, cur, hv, _, hg, hle, hcm, hsz, htk⟩
  · exact ⟨none, 0, by rw [hv, h0], by omega, fun j hj => by omega⟩
  · refine ⟨_, cap, hv, hle, fun j hj => ⟨b, rfl, Blk.lt hg, ?_⟩⟩
    obtain ⟨p1, p2⟩ := rpl_get P PC D.ps D.size D.np j hj
    have at_ : ∀ k v, k < D.np * 2 → (rpl P PC D.ps D.size D.np)[k]? = some v → w.cell? ⟨b, k, none⟩ = some v := fun k v hk hk2 => by
      have htk' : cur.toList.take (D.np * 2) = rpl P PC D.ps D.size D.np := htk
      rw [← htk', List.getElem?_take, if_pos hk] at hk2
      rw [cell_of_row w b k _ _ _ hg, ← hk2, Array.getElem?_toList]
    exact ⟨at_ _ _ (by omega) p1, at_ _ _ (by omega) p2⟩
theorem RefX.pcell {w : World} {g : Nat} {dv : Value} {a : Option Addr} {m c : Nat} {Q C P PC : Nat → Nat} {D : Dsk} (h : RefX w g dv (.slice a m c) Q C P PC D) {j : Nat} (hj : j < D.np) : ∃ b, a = some ⟨b, 0, none⟩ ∧ b < w.heap.size ∧ w.cell? ⟨b, j * 2, none⟩ = some (.int .i64 (D.ps j : Int)) ∧ w.cell? ⟨b, j * 2 + 1, none⟩ = some (.slice (some ⟨P j, 0, none⟩) D.size (PC j)) := by
  obtain ⟨a', c', e, _, hc⟩ := h.pend
  cases e
  exact hc j hj
theorem Dsk.put_zero (D : Dsk) (s : Nat) (b : List Nat) : D.put s b 0 = D := by
  unfold Dsk.put
  congr 1
  funext i
  by_cases e : i = s
  · rw [if_pos e, e]; rfl
  · rw [if_neg e]
/-- put, behind k of the pending writes -/
theorem rput_at (keep : Nat → Bool) (t : Nat) (D0 : Dsk) (k : Nat) {w wr W : World} {S S' : Nat → Prop} {g db n dc : Nat} {lv : Value} {Q C P PC : Nat → Nat} (h : RPut w wr S S' g (.slice (some ⟨db, 0, none⟩) n dc) lv Q C P PC (Dsk.crN keep t D0 k).2) (hn : D0.n = n) (hk : k < D0.np) (m : Nat) (hm : m ≤ D0.size) (hb : Below wr.heap.size wr W) :
    Calls Try.prog 45 #[.pointer (some ⟨g, 0, none⟩), .agg #[.int .i64 (D0.ps k : Int), .slice (some ⟨P k, 0, none⟩) D0.size (PC k)], .int .i64 (m : Int)] W fun e w' => e = .returned (.tuple #[]) ∧ ∃ S2 Q2 C2, RPut w w' S S2 g (.slice (some ⟨db, 0, none⟩) n dc) lv Q2 C2 P PC ((Dsk.crN keep t D0 k).2.put (D0.ps k) (D0.pb k) m) := by
  obtain ⟨e1, e2, e3, e4, e5, e6, e7⟩ := Dsk.crN_same keep t D0 k
  subst hn
  have h2 := h.below hb
  have h3 := h2.dx
  have h4 := h2.fp
  rw [← e2] at h3 h4
  have hs := rput_any g db dc S' lv Q C P PC (Dsk.crN keep t D0 k).2 k m W h3 h4 h2.lt (by rw [e3]; exact hk) (by rw [e1]; exact hm)
  rw [e1, e2, e4, e5] at hs
  refine hs.mono ?_
  rintro e' w' ⟨rfl, S2, Q2, C2, hp⟩
  exact ⟨rfl, S2, Q2, C2, h2.trans hp⟩
set_option maxRecDepth 100000 in
set_option maxHeartbeats 1000000 in
theorem rsync_any (g : Nat) (S : Nat → Prop) (D : Dsk) (w : World) (h : Hid (RK w S g D)) (hnp : D.np ≤ 1000000) :
    Calls Try.prog 34 #[.pointer (some ⟨g, 0, none⟩)] w fun e w' => e = .returned (.int .i64 (D.sync.1 : Int)) ∧ ∃ S', RK w' S' g D.sync.2 ∧ Step w w' S S' := by
  obtain ⟨⟨dv, lv, Q, C, P, PC, hX0, hS0⟩, hlt0⟩ := h.out
  have hX := hidIt hX0
  have hS := hidIt hS0
  have hlt := hidIt hlt0
  obtain ⟨f0, f1, f2, f3, f4, fz⟩ := hX0.fields
  have hwf := hidIt hX0.wf
  obtain ⟨a, c, hpv, hpc, _⟩ := hX0.pend
  obtain ⟨db, dc, hdv, _, _, _⟩ := hX0.durc
  clear hX0 hS0 hlt0
  by_cases hd : D.down = true
  · have he : Hid (D.sync = (8, D)) := by show _ = _; unfold Dsk.sync; rw [if_pos hd]
    rw [hd] at f3
    rw [he.out]
    go_enter Try.func34, Try.ntmps34
    go_wp2
    go_ret
    exact ⟨rfl, S, h.out, Step.refl _ _⟩
  · have hd' : D.down = false := by simpa using hd
    rw [hd'] at f3
    have dO := hidIt (rfails_any g dv lv Q C P PC D w hX)
    by_cases h8 : D.oper.1 = 0
    · have he : Hid (D.sync = (0, (Dsk.crN (fun _ => true) 0 D.oper.2 D.np).2.clear)) := by show _ = _; unfold Dsk.sync; rw [if_neg hd, if_pos h8]
      have hod : Hid (D.oper.2.np = D.np ∧ D.oper.2.size = D.size ∧ D.oper.2.WF ∧ D.oper.2.n = D.n) := ⟨by rcases Dsk.oper_cases D hwf.out with ⟨_, e⟩ | ⟨_, e⟩ | ⟨_, e⟩ <;> rw [e], by rcases Dsk.oper_cases D hwf.out with ⟨_, e⟩ | ⟨_, e⟩ | ⟨_, e⟩ <;> rw [e], hwf.out.oper, by rcases Dsk.oper_cases D hwf.out with ⟨_, e⟩ | ⟨_, e⟩ | ⟨_, e⟩ <;> rw [e]⟩
      rw [he.out]
      rw [show decide (D.oper.1 ≠ 0) = false by simp [h8]] at dO
      obtain ⟨D0, hD0⟩ : ∃ D0, Hid (D.oper.2 = D0) := ⟨_, rfl⟩
      obtain ⟨n, hn⟩ : ∃ n, Hid (D.np = n) := ⟨_, rfl⟩
      obtain ⟨z, hzz⟩ : ∃ z, Hid (D.size = z) := ⟨_, rfl⟩
      obtain ⟨N, hN⟩ : ∃ N, Hid (D.n = N) := ⟨_, rfl⟩
      subst hpv hdv
      rw [hD0.out] at dO hod ⊢
      rw [hn.out] at hod hnp f2 hpc ⊢
      rw [hzz.out] at hod f0
      rw [hN.out] at hod
      simp only [hn.out, hN.out] at dO
      clear hX hwf hd h8 he h f0 f1 f4 fz
      go_enter Try.func34, Try.ntmps34
      go_wp2_with (fail)
      refine dO.out.mono ?_
      rintro e w1 ⟨rfl, hX1, hg1⟩
      have hP1 : Hid (RPut w w1 S S g (.slice (some ⟨db, 0, none⟩) N dc) (.slice a n c) Q C P PC D0) := ⟨hX1, fun b hb => hS.out b (by rw [hod.out.1, hod.out.2.2.2] at hb; rw [hn.out, hN.out]; exact hb), fun b hb => Nat.lt_of_lt_of_le (hlt.out b hb) hg1.size, Step.of_grown hg1 (hS.out g (.inl rfl))⟩
      clear hX1 hg1 hS hlt dO f2 f3
      go_wp2_with (fail)
      go_loopw [3] (fun i wr => ∃ k : Nat, i = .int .i64 (k : Int) ∧ k ≤ n ∧ Hid (∃ S' Q' C', RPut w wr S S' g (.slice (some ⟨db, 0, none⟩) N dc) (.slice a n c) Q' C' P PC (Dsk.crN (fun _ => true) 0 D0 k).2)) (fun i _ => n - (intOf i).toNat)
      case atStart => exact ⟨0, rfl, by omega, S, Q, C, hP1.out⟩
      case round =>
        obtain ⟨k, rfl, hk, hr⟩ := hrel
        obtain ⟨S', Q', C', hPr⟩ := hr.out
        clear hr
        by_cases hkn : k < n
        · obtain ⟨e1, e2, e3, e4, e5, e6, e7⟩ := Dsk.crN_same (fun _ => true) 0 D0 k
          obtain ⟨b, rfl, hbs, c0, c1⟩ := hPr.dx.pcell (j := k) (by rw [e3, hod.out.1]; exact hkn)
          rw [e4] at c0
          rw [e1, hod.out.2.1] at c1
          obtain ⟨s, hs⟩ : ∃ s, Hid (D0.ps k = s) := ⟨_, rfl⟩
          obtain ⟨p, hp⟩ : ∃ p, Hid (P k = p) := ⟨_, rfl⟩
          obtain ⟨pc, hpcc⟩ : ∃ pc, Hid (PC k = pc) := ⟨_, rfl⟩
          have dS : Hid (∀ W, Below wr.heap.size wr W → Calls Try.prog 45 #[.pointer (some ⟨g, 0, none⟩), .agg #[.int .i64 (s : Int), .slice (some ⟨p, 0, none⟩) z pc], .int .i64 (z : Int)] W fun e w' => e = .returned (.tuple #[]) ∧ ∃ S2 Q2 C2, RPut w w' S S2 g (.slice (some ⟨db, 0, none⟩) N dc) (.slice (some ⟨b, 0, none⟩) n c) Q2 C2 P PC (Dsk.crN (fun _ => true) 0 D0 (k + 1)).2) := fun W hW => by
            have := rput_at (fun _ => true) 0 D0 k hPr hod.out.2.2.2 (by rw [hod.out.1]; exact hkn) z (by rw [hod.out.2.1]; exact Nat.le_refl _) hW
            rw [hs.out, hp.out, hpcc.out, hod.out.2.1] at this
            rw [Dsk.crN, if_pos rfl, hs.out, hod.out.2.1]
            exact this
          have k0 := hPr.dx.fields.size
          rw [e1, hod.out.2.1] at k0
          have k2 := hPr.dx.fields.pend
          rw [hs.out] at c0
          rw [hp.out, hpcc.out] at c1
          have t1 : (k : Int) < (n : Int) := by omega
          have dS2 := hidIt (dS.out wr.drew (Below.drew (Below.refl _ _)))
          clear e1 e2 e3 e4 e5 e6 e7 hPr hs hp hpcc hbs hP1 dS
          go_wp2_with (fail)
          go_region_law (first
            | (go_simp; go_at_call 45; (with_reducible refine Calls.mono dS2.out ?_); rintro e w3 ⟨rfl, hP3⟩; replace hP3 := hidIt hP3))
          all_goals first
            | exact ⟨⟨k + 1, by go_num, by omega, hP3⟩, by simp [intOf]; omega⟩
            | (go_wp2_with (fail)
               exact ⟨⟨k + 1, by go_num, by omega, hP3⟩, by simp [intOf]; omega⟩)
        · have hkn' : Hid (k = n) := by show _ = _; omega
          rw [hkn'.out] at hPr
          have g2 := hPr.dx.fields.pend
          have g2f := hPr.dx.fields.fz 2
          have tn : ¬ (k : Int) < (n : Int) := by omega
          have hfin : Hid (∃ S', RK (wr.setCell ⟨g, 2, none⟩ (.slice none 0 0)) S' g (Dsk.crN (fun _ => true) 0 D0 n).2.clear ∧ Step w (wr.setCell ⟨g, 2, none⟩ (.slice none 0 0)) S S') := by
            have hX := hPr.dx.field (grownBy_setC wr g 2 (.slice none 0 0)) (D' := (Dsk.crN (fun _ => true) 0 D0 n).2.clear) (lv' := .slice none 0 0) hPr.dx.wf.clear (hPr.dx.blk.set_ 2 _) rfl rfl rfl (.inr ⟨rfl, rfl⟩)
            exact ⟨S', RK.field hX hPr.fp hPr.lt (by simp) rfl (.inr ⟨rfl, rfl⟩), hPr.step.trans (Step.of_grown (grownBy_setC wr g 2 _) (hPr.fp g (.inl rfl)))⟩
          clear hPr hP1
          go_wp2_with (fail)
          go_ret
          exact ⟨rfl, hfin.out⟩
    · have he : Hid (D.sync = D.oper) := by show _ = _; unfold Dsk.sync; rw [if_neg hd, if_neg h8]
      have h8' : Hid (D.oper.1 = 8) := by rcases Dsk.oper_cases D hwf.out with ⟨_, e⟩ | ⟨_, e⟩ | ⟨_, e⟩ <;> rw [e] at h8 ⊢ <;> first | exact absurd rfl h8 | rfl
      have hod : Hid (D.oper.2.np = D.np ∧ D.oper.2.n = D.n) := ⟨by rcases Dsk.oper_cases D hwf.out with ⟨_, e⟩ | ⟨_, e⟩ | ⟨_, e⟩ <;> rw [e], by rcases Dsk.oper_cases D hwf.out with ⟨_, e⟩ | ⟨_, e⟩ | ⟨_, e⟩ <;> rw [e]⟩
      rw [he.out]
      rw [show decide (D.oper.1 ≠ 0) = true by simp [h8]] at dO
      rw [h8'.out]
      clear hd h8 f0 f1 f2 f4 fz
      go_enter Try.func34, Try.ntmps34
      go_wp2_with (fail)
      refine dO.out.mono ?_
      rintro e w1 ⟨rfl, hX1, hg1⟩
      have hfin : Hid (∃ S', RK w1 S' g D.oper.2 ∧ Step w w1 S S') := ⟨S, ⟨⟨dv, lv, Q, C, P, PC, hX1, fun b hb => hS.out b (by rw [hod.out.1, hod.out.2] at hb; exact hb)⟩, fun b hb => Nat.lt_of_lt_of_le (hlt.out b hb) hg1.size⟩, Step.of_grown hg1 (hS.out g (.inl rfl))⟩
      clear hX1 hg1 hS hlt dO
      go_wp2_with (fail)
      go_ret
      exact ⟨rfl, hfin.out⟩
end Go.Proofs.Ytlpggkdmjmlpkaa
