import Derived.Test.YtlpggkdmjmlpkaaDc
import Derived.Maps.AppendAt
namespace Go.Proofs.Ytlpggkdmjmlpkaa
open Go.RowKit
theorem infoWr : (Try.prog.info? 66).map (fun i => (i.zero, i.size, i.bytes)) = some (some (.agg #[.int .i64 0, .slice none 0 0]), 2, 32) := by kernel_rfl
/-- append of one struct of two cells to a row of the disk's own, one step of a region that draws -/
theorem step_push_wr (w : World) {ops : Array Oper} {o : Oper} {act : Act} {K : Act → World → Prop} {Q : Exit → Act → World → Prop} {E : Prop} (hgd : o.guard = none) (s x : Operand)
    (ho : o.op = .call { callee := .builtin .append, args := #[s, x], argTypes := #[60, 60] })
    (v : Value) (n : Nat) (xs : List Value) (hs : act.eval s = v) (hown : w.ownsRow 0 66 2 v n xs)
    (q : Nat) (y z : Value) (hx : act.eval x = .slice (some ⟨q, 0, none⟩) 1 1) (hq : Blk w q 66 #[y, z]) (hy : y.oneCell' = true) (hz : z.oneCell' = true) (hbig : n ≤ 1000000000)
    (h : ∀ v' w', w'.ownsRow 0 66 2 v' (n + 1) (xs ++ [y, z]) → w.grownBy w' v.ownBlock → (v'.ownBlock = v.ownBlock ∨ v'.ownBlock = some w.heap.size) → K (act.put o.dst v') w') :
    if Region.wanted o (yielded ops act.tmps) = true then Oper.wp Try.prog o act w K Q else E := by
  have hw : Region.wanted o (yielded ops act.tmps) = true := by simp [Region.wanted, hgd]
  rw [if_pos hw]
  obtain ⟨i0, hi, hz0, hz1, hz2⟩ := info_parts infoWr
  obtain ⟨v', w', hr, h2, h3, _, h5⟩ := run_append_own_at (P := Try.prog) w 0 60 o.type 66 i0 (.agg #[.int .i64 0, .slice none 0 0]) 2 32 Try.underlying60 hi hz0 hz1 hz2 rfl (by decide) v n xs hown ⟨q, 0, none⟩ 1 1 [y, z] rfl (fun j u hu => by
    have hc := hq.cell (0 + j)
    have e : (⟨q, 0, none⟩ : Addr).add j = ⟨q, 0 + j, none⟩ := by unfold Addr.add; split <;> simp_all
    rw [e, hc, Nat.zero_add]
    rw [← List.getElem?_toArray] at hu
    exact hu) (fun u hu => by
    simp only [List.mem_cons, List.not_mem_nil, or_false] at hu
    rcases hu with rfl | rfl
    · exact hy
    · exact hz) (by unfold maxLen; omega) (by omega) (Nat.zero_le _)
  unfold Oper.wp execOp
  simp only [ho, resolve, invoke, builtin, Sem.run_bind, Sem.run_pure, Result.andThen_ok, List.map_toArray, List.map_cons, List.map_nil, hs, hx, hr]
  exact h v' w' h2 h3 h5
theorem own_shape {w : World} {base n k : Nat} {t : TypeId} {v : Value} {xs : List Value} (h : w.ownsRow base t k v (n + 1) xs) : ∃ b c, v = .slice (some ⟨b, 0, none⟩) (n + 1) c := by
  rcases h.2 with ⟨_, h0⟩ | ⟨g, cap, _, hv, _⟩
  · omega
  · exact ⟨g, cap, hv⟩
/-- a write was put behind the pending ones: w1 has its copy q0 and what else is new, in w2 the row is longer, in w3 the field is stored -/
theorem DX.push {w w1 w2 : World} {S : Nat → Prop} {g dB : Nat} {A : Nat → Option Nat} {pv v' : Value} {P : Nat → Nat} {D : Dsk} {s q0 : Nat} {bs : List Nat} (h : DX w g dB A pv P D) (hS : ∀ b, FP g dB A pv P D.n D.np b → S b) (hlt : ∀ b, S b → b < w.heap.size)
    (hs : s < D.n) (hb : bs.length = D.size) (hl : ∀ x ∈ bs, x < 256) (hb1 : Below w.heap.size w w1) (hq : BB w1 q0 bs) (hq0 : w.heap.size ≤ q0)
    (hown : w2.ownsRow 0 66 2 v' (D.np + 1) (pcl P D.ps D.size D.np ++ [.int .i64 (s : Int), .slice (some ⟨q0, 0, none⟩) D.size D.size])) (hg : w1.grownBy w2 pv.ownBlock) (hat : v'.ownBlock = pv.ownBlock ∨ v'.ownBlock = some w1.heap.size) :
    PutR w (w2.setCell ⟨g, 2, none⟩ v') S (fun b => S b ∨ (w.heap.size ≤ b ∧ b < w2.heap.size)) g dB A v' (fun j => if j = D.np then q0 else P j) (D.push s bs) := by
  have h1 := h.below hb1
  have z1 := hb1.size
  have z2 := hg.size
  have gne : some g ≠ pv.ownBlock := fun e => h.ne (b := g) (.inr (.inr (.inl e.symm))) rfl
  have ot : ∀ q, q < w1.heap.size → q ≠ g → some q ≠ pv.ownBlock → (w2.setCell ⟨g, 2, none⟩ v').heap[q]? = w1.heap[q]? := fun q a b c => by
    rw [Below.heap_setCell _ _ _ _ (by exact b)]; exact hg.block q a c
  have pvb : ∀ {q t cs}, Blk w1 q t cs → t ≠ 66 → some q ≠ pv.ownBlock := fun {q t cs} hB ht e => by
    obtain ⟨cs', hc⟩ := own_blk h1.own e.symm
    exact blk_ne hB hc ht rfl
  have keep : ∀ {q t cs}, Blk w1 q t cs → t ≠ 66 → t ≠ 62 → Blk (w2.setCell ⟨g, 2, none⟩ v') q t cs := fun {q t cs} hB ht ht2 =>
    (ot q hB.lt (blk_ne hB h1.blk ht2) (pvb hB ht)).trans hB
  refine ⟨⟨h.wf.push hs hb hl, ?_, keep h1.row (by decide) (by decide), h.nil, fun i b hi hA => keep (h1.sec i b hi hA) (by decide) (by decide), ?_, fun j hj => ?_, h.inj, fun i j hi hj => ?_⟩, fun b hb' => ?_, fun b hb' => ?_, ?_⟩
  · have hB2 : Blk w2 g 62 _ := (hg.block g h1.blk.lt gne).trans h1.blk
    exact hB2.set_ 2 v'
  · have e : pcl (fun j => if j = D.np then q0 else P j) (D.push s bs).ps (D.push s bs).size (D.push s bs).np = pcl P D.ps D.size D.np ++ [.int .i64 (s : Int), .slice (some ⟨q0, 0, none⟩) D.size D.size] := by
      show pcl _ _ _ (D.np + 1) = _
      rw [pcl_snoc]
      simp only [Dsk.push, if_pos]
      rw [pcl_congr (P' := P) (ps' := D.ps) (fun j hj => by rw [if_neg (by omega), if_neg (by omega)]; exact ⟨rfl, rfl⟩)]
    rw [e]
    refine own_blocks hown fun b hb' => ?_
    exact Below.heap_setCell _ _ _ _ (by
      show b ≠ g
      rcases hat with a | a
      · rw [a] at hb'; exact fun e => gne (by rw [← e, hb'])
      · rw [a] at hb'; cases hb'; have := h1.blk.lt; omega)
  · by_cases e : j = D.np
    · simp only [Dsk.push, if_pos e]; exact keep hq (by decide) (by decide)
    · simp only [Dsk.push, if_neg e]; exact keep (h1.pen j (by have : j < D.np + 1 := hj; omega)) (by decide) (by decide)
  · by_cases e : j = D.np
    · simp only [if_pos e]
      intro hA
      have := Blk.lt (h.sec i _ hi hA)
      omega
    · simp only [if_neg e]; exact h.dis i j hi (by have : j < D.np + 1 := hj; omega)
  · rcases hb' with rfl | rfl | ⟨i, hi, hA⟩ | e | ⟨j, hj, e⟩
    · exact .inl (hS _ (.inl rfl))
    · exact .inl (hS _ (.inr (.inl rfl)))
    · exact .inl (hS _ (.inr (.inr (.inl ⟨i, hi, hA⟩))))
    · rcases hat with a | a
      · exact .inl (hS _ (.inr (.inr (.inr (.inl (a ▸ e))))))
      · rw [a] at e; cases e
        obtain ⟨cs, hc⟩ := own_blk hown a
        exact .inr ⟨z1, hc.lt⟩
    · by_cases e2 : j = D.np
      · simp only [if_pos e2] at e
        subst e
        exact .inr ⟨hq0, by have := Blk.lt hq; omega⟩
      · simp only [if_neg e2] at e
        exact .inl (hS _ (.inr (.inr (.inr (.inr ⟨j, by have : j < D.np + 1 := hj; omega, e⟩)))))
  · simp only [World.size_setCell]
    rcases hb' with e | ⟨_, e⟩
    · have := hlt b e; omega
    · exact e
  · refine ⟨hg.os.trans hb1.os, hg.tape.trans hb1.tape, hg.output.trans hb1.output, by simp only [World.size_setCell]; omega, fun i hi hn => ?_, fun b hb' => by simp only [World.size_setCell]; exact hb'⟩
    rw [ot i (by omega) (fun e => hn (by rw [e]; exact hS _ (.inl rfl))) (fun e => hn (hS _ (.inr (.inr (.inr (.inl e.symm))))))]
    exact hb1.block i hi
set_option maxRecDepth 100000 in
set_option maxHeartbeats 1000000 in
theorem write_any (g : Nat) (S : Nat → Prop) (D : Dsk) (s : Int) (a : Option Addr) (len cap : Nat) (bs : List Nat) (w : World) (h : Hid (DK w S g D)) (hl : len = bs.length) (hby : Bytes w a bs) (hbl : Hid (∀ x ∈ bs, x < 256)) (hnp : D.np ≤ 1000000) :
    Calls Try.prog 25 #[.pointer (some ⟨g, 0, none⟩), .int .i64 s, .slice a len cap] w fun e w' => e = .returned (.int .i64 ((D.write s bs).1 : Int)) ∧ ∃ S', DK w' S' g (D.write s bs).2 ∧ Step w w' S S' := by
  obtain ⟨⟨dB, A, pv, P, hX0, hS0⟩, hlt0⟩ := h.out
  have hX := hidIt hX0
  have hS := hidIt hS0
  have hlt := hidIt hlt0
  have F := hX0.fields
  obtain ⟨f0, f1, f2, f3, f4, fz⟩ := F
  have hwf := hidIt hX0.wf
  have hz2 := hX0.wf.s2
  have hn2 := hX0.wf.n2
  clear hX0 hS0 hlt0
  by_cases hd : D.down = true
  · have he : Hid (D.write s bs = (8, D)) := by show _ = _; unfold Dsk.write; rw [if_pos hd]
    rw [hd] at f4
    rw [he.out]
    go_enter Try.func25, Try.ntmps25
    go_wp2
    go_ret
    exact ⟨rfl, S, h.out, Step.refl _ _⟩
  · have hd' : D.down = false := by simpa using hd
    have dH : Hid (Calls Try.prog 38 #[.pointer (some ⟨g, 0, none⟩), .int .i64 s] w fun e w' => e = .returned (.bool (decide (0 ≤ s ∧ s < D.n))) ∧ w = w') := has_any g dB D.n D.size pv D.left D.down s w hX.out.fields (by omega)
    rw [hd'] at f4
    by_cases hh : 0 ≤ s ∧ s < (D.n : Int)
    · rw [decide_eq_true hh] at dH
      by_cases hz : len = D.size
      · have hbl2 : bs.length = D.size := by omega
        have he : Hid (D.write s bs = (D.push s.toNat bs).oper) := by show _ = _; unfold Dsk.write; rw [if_neg hd, if_pos ⟨hh, hbl2⟩]
        have hsn : s.toNat < D.n := by omega
        have hsI : Hid (((s.toNat : Nat) : Int) = s) := by show _ = _; omega
        rw [he.out]
        have dC : Hid (Calls Try.prog 31 #[.pointer (some ⟨g, 0, none⟩), .slice a len cap] w.drew fun e w' => CpR w.drew e w' D.size bs) :=
          copied_any g dB D.n D.size pv D.left D.down a len cap bs w.drew (hX.out.below (Below.drew (Below.refl _ _))).fields hz2 (hby.drewN 1) hl hbl2
        have hpush : Hid (∀ w2 tmp v' w5, BB w2 w.heap.size bs → Below w.heap.size w w2 → w5.ownsRow 0 66 2 v' (D.np + 1) (pcl P D.ps D.size D.np ++ [.int .i64 s, .slice (some ⟨w.heap.size, 0, none⟩) D.size D.size]) → (w2.alloc tmp).grownBy w5 pv.ownBlock → (v'.ownBlock = pv.ownBlock ∨ v'.ownBlock = some (w2.alloc tmp).heap.size) →
            w5.cell? ⟨g, 2, none⟩ = some pv ∧ w5.frozen? ⟨g, 2, none⟩ = false ∧ PutR w (w5.setCell ⟨g, 2, none⟩ v') S (fun b => S b ∨ (w.heap.size ≤ b ∧ b < w5.heap.size)) g dB A v' (fun j => if j = D.np then w.heap.size else P j) (D.push s.toNat bs)) := fun w2 tmp v' w5 hq hb2 hown hg hat => by
          have hb3 : Below w.heap.size w (w2.alloc tmp) := hb2.trans ((Below.refl _ w2).alloc hb2.size _)
          have hX3 := hX.out.below hb3
          have gne : some g ≠ pv.ownBlock := fun e => hX.out.ne (b := g) (.inr (.inr (.inl e.symm))) rfl
          have hgb := hg.block g hX3.blk.lt gne
          refine ⟨(World.cell?_of_block (a := ⟨g, 2, none⟩) hgb).trans hX3.fields.pend, (World.frozen?_of_block (a := ⟨g, 2, none⟩) hgb).trans (hX3.fields.fz 2), ?_⟩
          exact hX.out.push hS.out hlt.out hsn hbl2 hbl.out hb3 ((Below.refl _ w2).alloc (Nat.le_refl _) tmp |>.block w.heap.size (Blk.lt hq) |>.trans hq) (Nat.le_refl _) (by rw [hsI.out]; exact hown) hg hat
        have hown0 : Hid (∀ w2 tmp, Below w.heap.size w w2 → (w2.alloc tmp).ownsRow 0 66 2 pv D.np (pcl P D.ps D.size D.np)) := fun w2 tmp hb2 => (hX.out.below (hb2.trans ((Below.refl _ w2).alloc hb2.size tmp))).own
        have hpd : Hid (∀ w2, Below w.heap.size w w2 → w2.cell? ⟨g, 2, none⟩ = some pv) := fun w2 hb2 => (hX.out.below hb2).fields.pend
        have dO : Hid (∀ w2 S' v', PutR w w2 S S' g dB A v' (fun j => if j = D.np then w.heap.size else P j) (D.push s.toNat bs) → Calls Try.prog 39 #[.pointer (some ⟨g, 0, none⟩)] w2 fun e w' => e = .returned (.int .i64 (((D.push s.toNat bs).oper).1 : Int)) ∧ ∃ S', DK w' S' g (D.push s.toNat bs).oper.2 ∧ Step w w' S S') := fun w2 S' v' hP => by
          refine (operate_any g dB A v' _ _ w2 hP.dx).mono ?_
          rintro e w3 ⟨rfl, hX3, hg3⟩
          refine ⟨rfl, S', ⟨⟨dB, A, v', _, hX3, fun b hb => hP.fp b ?_⟩, fun b hb => Nat.lt_of_lt_of_le (hP.lt b hb) hg3.size⟩, hP.step.trans (Step.of_grown hg3 (hP.fp g (.inl rfl)))⟩
          rcases Dsk.oper_cases _ hP.dx.wf with ⟨_, e⟩ | ⟨_, e⟩ | ⟨_, e⟩ <;> rw [e] at hb <;> exact hb
        obtain ⟨r, hr⟩ : ∃ r, Hid ((D.push s.toNat bs).oper = r) := ⟨_, rfl⟩
        obtain ⟨xs, hxs⟩ : ∃ xs, Hid (pcl P D.ps D.size D.np = xs) := ⟨_, rfl⟩
        obtain ⟨z, hzz⟩ : ∃ z, Hid (D.size = z) := ⟨_, rfl⟩
        obtain ⟨m, hm⟩ : ∃ m, Hid (D.np = m) := ⟨_, rfl⟩
        have hzl : len = z := by rw [hz, hzz.out]
        rw [hxs.out] at hpush hown0
        rw [hm.out] at hnp
        rw [hr.out] at dO ⊢
        rw [hzz.out] at f0 dC
        simp only [hzz.out] at hpush
        simp only [hm.out] at hpush hown0 dO
        subst hzl
        clear hX hS hlt hwf hz2 hn2 he hl hbl2 hz hd hh hsn h hby hbl f1 f3
        go_enter Try.func25, Try.ntmps25
        go_wp2_with (fail)
        refine dH.out.mono ?_
        rintro e w1 ⟨rfl, rfl⟩
        go_wp2_with (fail)
        go_region_law (first
          | (go_simp; go_at_call 31; (with_reducible refine Calls.mono dC.out ?_); rintro e w2 ⟨rfl, hq2, hq3, hb2⟩; have hb3 : Hid (Below w.heap.size w w2) := (Below.drew (Below.refl _ _)).trans hb2; replace hq2 := hidIt hq2; have p2 := hpd.out w2 hb3.out; have p3 := hpd.out (w2.alloc (.cells #[.int .i64 s, .slice (some ⟨w.heap.size, 0, none⟩) len len] 66)) (hb3.out.alloc hb3.out.size _); clear hb2 hq3)
          | (refine step_push_wr _ rfl (.tmp 30) (.tmp 36) rfl pv m xs (by simp [Act.eval]) (hown0.out _ _ hb3.out) w2.heap.size (.int .i64 s) (.slice (some ⟨w.heap.size, 0, none⟩) len len) (by simp [Act.eval]) (Blk.new w2 _ _) rfl rfl (by omega) ?_; intro v5 w5 ho5 hg5 ha5; obtain ⟨p5, p6, hP⟩ := hpush.out _ _ _ _ hq2.out hb3.out ho5 hg5 ha5; replace hP := hidIt hP; obtain ⟨b5, c5, rfl⟩ := own_shape ho5; clear ho5 hg5 ha5))
        all_goals
          go_wp2_with (fail)
          refine (dO.out _ _ _ hP.out).mono ?_
          rintro e w6 ⟨rfl, hD6⟩
          replace hD6 := hidIt hD6
          go_wp2_with (fail)
          go_ret
          exact ⟨rfl, hD6.out⟩
      · have he : Hid (D.write s bs = (1, D)) := by show _ = _; unfold Dsk.write; rw [if_neg hd, if_neg (fun e => hz (by rw [hl, e.2]))]
        have t1 : ((len : Int) == (D.size : Int)) = false := by simp; omega
        rw [he.out]
        clear hz hl hh
        go_enter Try.func25, Try.ntmps25
        go_wp2_with (fail)
        refine dH.out.mono ?_
        rintro e w1 ⟨rfl, rfl⟩
        go_wp2_with (fail)
        go_ret
        exact ⟨rfl, S, h.out, Step.refl _ _⟩
    · rw [decide_eq_false hh] at dH
      have he : Hid (D.write s bs = (1, D)) := by show _ = _; unfold Dsk.write; rw [if_neg hd, if_neg (fun e => hh e.1)]
      rw [he.out]
      clear hh
      go_enter Try.func25, Try.ntmps25
      go_wp2_with (fail)
      refine dH.out.mono ?_
      rintro e w1 ⟨rfl, rfl⟩
      go_wp2_with (fail)
      go_ret
      exact ⟨rfl, S, h.out, Step.refl _ _⟩
end Go.Proofs.Ytlpggkdmjmlpkaa
