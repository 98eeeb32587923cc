import Derived.Test.YtlpggkdmjmlpkaaRf4
namespace Go.Proofs.Ytlpggkdmjmlpkaa
open Go.RowKit
theorem infoPd : (Try.prog.info? 73).map (fun i => (i.zero, i.size, i.bytes)) = some (some (.agg #[.int .i64 0, .slice none 0 0]), 2, 32) := by kernel_rfl
/-- append of one struct of two cells to a row of the reference's own, one step of a region that draws -/
theorem step_push_pd (w : World) {ops : Array Oper} {o : Oper} {act : Act} {K : Act → World → Prop} {Q : Exit → Act → World → Prop} {E : Prop} (hgd : o.guard = none) (s x : Operand)
    (ho : o.op = .call { callee := .builtin .append, args := #[s, x], argTypes := #[32, 32] })
    (v : Value) (n : Nat) (xs : List Value) (hs : act.eval s = v) (hown : w.ownsRow 0 73 2 v n xs)
    (q : Nat) (y z : Value) (hx : act.eval x = .slice (some ⟨q, 0, none⟩) 1 1) (hq : Blk w q 73 #[y, z]) (hy : y.oneCell' = true) (hz : z.oneCell' = true) (hbig : n ≤ 1000000000)
    (h : ∀ v' w', w'.ownsRow 0 73 2 v' (n + 1) (xs ++ [y, z]) → w.grownBy w' v.ownBlock → (v'.ownBlock = v.ownBlock ∨ v'.ownBlock = some w.heap.size) → K (act.put o.dst v') w') :
    if Region.wanted o (yielded ops act.tmps) = true then Oper.wp Try.prog o act w K Q else E := by
  have hw : Region.wanted o (yielded ops act.tmps) = true := by simp [Region.wanted, hgd]
  rw [if_pos hw]
  obtain ⟨i0, hi, hz0, hz1, hz2⟩ := info_parts infoPd
  obtain ⟨v', w', hr, h2, h3, _, h5⟩ := run_append_own_at (P := Try.prog) w 0 32 o.type 73 i0 (.agg #[.int .i64 0, .slice none 0 0]) 2 32 Try.underlying32 hi hz0 hz1 hz2 rfl (by decide) v n xs hown ⟨q, 0, none⟩ 1 1 [y, z] rfl (fun j u hu => by
    have hc := hq.cell (0 + j)
    have e : (⟨q, 0, none⟩ : Addr).add j = ⟨q, 0 + j, none⟩ := by unfold Addr.add; split <;> simp_all
    rw [e, hc, Nat.zero_add]
    rw [← List.getElem?_toArray] at hu
    exact hu) (fun u hu => by
    simp only [List.mem_cons, List.not_mem_nil, or_false] at hu
    rcases hu with rfl | rfl
    · exact hy
    · exact hz) (by unfold maxLen; omega) (by omega) (Nat.zero_le _)
  unfold Oper.wp execOp
  simp only [ho, resolve, invoke, builtin, Sem.run_bind, Sem.run_pure, Result.andThen_ok, List.map_toArray, List.map_cons, List.map_nil, hs, hx, hr]
  exact h v' w' h2 h3 h5
/-- a write was put behind the pending ones of the reference -/
theorem RefX.push {w w1 w2 : World} {S : Nat → Prop} {g : Nat} {dv lv v' : Value} {Q C P PC : Nat → Nat} {D : Dsk} {s q0 c0 : Nat} {bs : List Nat} (h : RefX w g dv lv Q C P PC D) (hS : ∀ b, RF g dv lv Q P D.n D.np b → S b) (hlt : ∀ b, S b → b < w.heap.size)
    (hs : s < D.n) (hb : bs.length = D.size) (hl : ∀ x ∈ bs, x < 256) (hb1 : Below w.heap.size w w1) (hq : RB w1 q0 bs) (hq0 : w.heap.size ≤ q0) (hc0 : D.size ≤ c0)
    (hown : w2.ownsRow 0 73 2 v' (D.np + 1) (rpl P PC D.ps D.size D.np ++ [.int .i64 (s : Int), .slice (some ⟨q0, 0, none⟩) D.size c0])) (hg : w1.grownBy w2 lv.ownBlock) (hat : v'.ownBlock = lv.ownBlock ∨ v'.ownBlock = some w1.heap.size) :
    RPut w (w2.setCell ⟨g, 2, none⟩ v') S (fun b => S b ∨ (w.heap.size ≤ b ∧ b < w2.heap.size)) g dv v' Q C (fun j => if j = D.np then q0 else P j) (fun j => if j = D.np then c0 else PC j) (D.push s bs) := by
  have h1 := h.below hb1
  have z1 := hb1.size
  have z2 := hg.size
  have gne : some g ≠ lv.ownBlock := fun e => h.ne (b := g) (.inr (.inl e.symm)) rfl
  have ot : ∀ q, q < w1.heap.size → q ≠ g → some q ≠ lv.ownBlock → (w2.setCell ⟨g, 2, none⟩ v').heap[q]? = w1.heap[q]? := fun q a b c => by
    rw [Below.heap_setCell _ _ _ _ (by exact b)]; exact hg.block q a c
  have lvb : ∀ {q t cs}, Blk w1 q t cs → t ≠ 73 → some q ≠ lv.ownBlock := fun {q t cs} hB ht e => by
    obtain ⟨cs', hc⟩ := own_blk h1.own e.symm
    exact blk_ne hB hc ht rfl
  have keepR : ∀ {q bs}, RB w1 q bs → RB (w2.setCell ⟨g, 2, none⟩ v') q bs := fun {q bs} hB => by
    refine hB.keep (ot q hB.lt (hB.ne h1.blk (by decide)) ?_)
    obtain ⟨cs, hc, _⟩ := hB
    exact lvb hc (by decide)
  refine ⟨⟨h.wf.push hs hb hl, ?_, ?_, fun i hi => keepR (h1.sec i hi), h.cap, ?_, fun j hj => ?_, fun j hj => ?_, h.inj, fun i j hi hj => ?_⟩, fun b hb' => ?_, fun b hb' => ?_, ?_⟩
  · have hB2 : Blk w2 g 34 _ := (hg.block g h1.blk.lt gne).trans h1.blk
    exact hB2.set_ 2 v'
  · refine own_blocks h1.row fun b e => ?_
    obtain ⟨cs, hc⟩ := own_blk h1.row e
    exact ot b hc.lt (blk_ne hc h1.blk (by decide)) (lvb hc (by decide))
  · have e : rpl (fun j => if j = D.np then q0 else P j) (fun j => if j = D.np then c0 else PC j) (D.push s bs).ps (D.push s bs).size (D.push s bs).np = rpl P PC D.ps D.size D.np ++ [.int .i64 (s : Int), .slice (some ⟨q0, 0, none⟩) D.size c0] := by
      show rpl _ _ _ _ (D.np + 1) = _
      rw [rpl_snoc]
      simp only [Dsk.push, if_pos]
      rw [rpl_congr (P' := P) (PC' := PC) (ps' := D.ps) (fun j hj => by rw [if_neg (by omega), if_neg (by omega), if_neg (by omega)]; exact ⟨rfl, rfl, rfl⟩)]
    show (w2.setCell ⟨g, 2, none⟩ v').ownsRow 0 73 2 v' (D.np + 1) (rpl (fun j => if j = D.np then q0 else P j) (fun j => if j = D.np then c0 else PC j) (D.push s bs).ps (D.push s bs).size (D.push s bs).np)
    rw [e]
    refine own_blocks hown fun b hb' => ?_
    exact Below.heap_setCell _ _ _ _ (by
      show b ≠ g
      rcases hat with a | a
      · rw [a] at hb'; exact fun e => gne (by rw [← e, hb'])
      · rw [a] at hb'; cases hb'; have := h1.blk.lt; omega)
  · show RB _ (if j = D.np then q0 else P j) (if j = D.np then bs else D.pb j)
    by_cases e : j = D.np
    · rw [if_pos e, if_pos e]; exact keepR hq
    · rw [if_neg e, if_neg e]; exact keepR (h1.pen j (by have : j < D.np + 1 := hj; omega))
  · show D.size ≤ (if j = D.np then c0 else PC j)
    by_cases e : j = D.np
    · rw [if_pos e]; exact hc0
    · rw [if_neg e]; exact h.pcap j (by have : j < D.np + 1 := hj; omega)
  · show Q i ≠ (if j = D.np then q0 else P j)
    by_cases e : j = D.np
    · rw [if_pos e]
      intro e2
      have := (h.sec i hi).lt
      omega
    · rw [if_neg e]; exact h.dis i j hi (by have : j < D.np + 1 := hj; omega)
  · rcases hb' with e | e | e | e | ⟨j, hj, e⟩
    · exact .inl (hS _ (.inl e))
    · exact .inl (hS _ (.inr (.inl e)))
    · rcases hat with a | a
      · exact .inl (hS _ (.inr (.inr (.inl (a ▸ e)))))
      · rw [a] at e; cases e
        obtain ⟨cs, hc⟩ := own_blk hown a
        exact .inr ⟨z1, hc.lt⟩
    · exact .inl (hS _ (.inr (.inr (.inr (.inl e)))))
    · replace e : (if j = D.np then q0 else P j) = b := e
      by_cases e2 : j = D.np
      · rw [if_pos e2] at e
        subst e
        exact .inr ⟨hq0, by have := hq.lt; omega⟩
      · rw [if_neg e2] at e
        exact .inl (hS _ (.inr (.inr (.inr (.inr ⟨j, by have : j < D.np + 1 := hj; omega, e⟩)))))
  · simp only [World.size_setCell]
    rcases hb' with e | ⟨_, e⟩
    · have := hlt b e; omega
    · exact e
  · refine ⟨hg.os.trans hb1.os, hg.tape.trans hb1.tape, hg.output.trans hb1.output, by simp only [World.size_setCell]; omega, fun i hi hn => ?_, fun b hb' => by simp only [World.size_setCell]; exact hb'⟩
    rw [ot i (by omega) (fun e => hn (by rw [e]; exact hS _ (.inl rfl))) (fun e => hn (hS _ (.inr (.inr (.inl e.symm)))))]
    exact hb1.block i hi
set_option maxRecDepth 100000 in
set_option maxHeartbeats 1000000 in
theorem rwrite_any (g : Nat) (S : Nat → Prop) (D : Dsk) (s : Int) (a : Option Addr) (len cap : Nat) (bs : List Nat) (w : World) (h : Hid (RK w S g D)) (hl : len = bs.length) (hby : Bytes w a bs) (hbl : Hid (∀ x ∈ bs, x < 256)) (hnp : D.np ≤ 1000000) :
    Calls Try.prog 32 #[.pointer (some ⟨g, 0, none⟩), .int .i64 s, .slice a len cap] w fun e w' => e = .returned (.int .i64 ((D.write s bs).1 : Int)) ∧ ∃ S', RK w' S' g (D.write s bs).2 ∧ Step w w' S S' := by
  obtain ⟨⟨dv, lv, Q, C, P, PC, hX0, hS0⟩, hlt0⟩ := h.out
  have hX := hidIt hX0
  have hS := hidIt hS0
  have hlt := hidIt hlt0
  have F := hidIt hX0.fields
  obtain ⟨f0, f1, f2, f3, f4, fz⟩ := hX0.fields
  have hwf := hidIt hX0.wf
  have hz2 := hX0.wf.s2
  have hz1 := hX0.wf.s1
  have hn2 := hX0.wf.n2
  obtain ⟨db, dc, hdv, _, _, _⟩ := hX0.durc
  clear hX0 hS0 hlt0
  by_cases hd : D.down = true
  · have he : Hid (D.write s bs = (8, D)) := by show _ = _; unfold Dsk.write; rw [if_pos hd]
    rw [hd] at f3
    rw [he.out]
    go_enter Try.func32, Try.ntmps32
    go_wp2
    go_ret
    exact ⟨rfl, S, h.out, Step.refl _ _⟩
  · have hd' : D.down = false := by simpa using hd
    have dH : Hid (Calls Try.prog 43 #[.pointer (some ⟨g, 0, none⟩), .int .i64 s] w fun e w' => e = .returned (.bool (decide (0 ≤ s ∧ s < D.n))) ∧ w = w') := rsector_any g db D.n dc D.size lv D.left D.down s w (by rw [← hdv]; exact F.out) (by omega)
    rw [hd'] at f3
    by_cases hh : 0 ≤ s ∧ s < (D.n : Int)
    · rw [decide_eq_true hh] at dH
      by_cases hz : len = D.size
      · have hbl2 : bs.length = D.size := by omega
        have he : Hid (D.write s bs = (D.push s.toNat bs).oper) := by show _ = _; unfold Dsk.write; rw [if_neg hd, if_pos ⟨hh, hbl2⟩]
        have hsn : s.toNat < D.n := by omega
        have hsI : Hid (((s.toNat : Nat) : Int) = s) := by show _ = _; omega
        rw [he.out]
        obtain ⟨ba, oa, rfl, _⟩ := hby 0 (by omega)
        have hA : Hid (∀ X : World, X.heap = (w.alloc (.cells #[] 5)).heap → X.ownsRow w.heap.size 5 1 (.slice (some ⟨w.heap.size, 0, none⟩) 0 0) 0 (vals [])) := fun X e1 => own_blocks (emptyOwnAt w w.heap.size (Nat.le_refl _)) (fun b _ => by rw [e1])
        have hbE : Below w.heap.size w (w.alloc (.cells #[] 5)) := (Below.refl _ _).alloc (Nat.le_refl _) _
        have hC : Hid (∀ X : World, X.heap = (w.alloc (.cells #[] 5)).heap → w.heap.size ≤ X.heap.size) := fun X e1 => by rw [e1]; exact hbE.size
        have hB : Hid (∀ X : World, X.heap = (w.alloc (.cells #[] 5)).heap → X.os = w.os → X.tape = w.tape → X.output = w.output → Bytes X (some ⟨ba, oa, none⟩) bs) := fun X e1 e2 e3 e4 => hby.below (⟨e2, e3, e4, by rw [e1]; exact hbE.size, fun i hi => by rw [e1]; exact hbE.block i hi⟩ : Below w.heap.size w X)
        have hH2 : Hid (∀ (X w3 : World) v3, X.heap = (w.alloc (.cells #[] 5)).heap → X.os = w.os → X.tape = w.tape → X.output = w.output → w3.ownsRow w.heap.size 5 1 v3 (0 + bs.length) (vals ([] ++ bs)) → X.grownBy w3 (some w.heap.size) → Below w.heap.size w w3 ∧ ∃ b3 c3, v3 = .slice (some ⟨b3, 0, none⟩) D.size c3 ∧ w.heap.size ≤ b3 ∧ D.size ≤ c3 ∧ RB w3 b3 bs) := fun X w3 v3 e1 e2 e3 e4 ho hg => by
          have hbX : Below w.heap.size w X := ⟨e2, e3, e4, by rw [e1]; exact hbE.size, fun i hi => by rw [e1]; exact hbE.block i hi⟩
          have hb3 : Below w.heap.size w w3 := hbX.grown hg hbX.size (fun q hq => by cases hq; exact Nat.le_refl _)
          rw [Nat.zero_add, List.nil_append, hbl2] at ho
          obtain ⟨b3, c3, rfl, k1, _, k2, k3⟩ := own_rb ho hz1
          exact ⟨hb3, b3, c3, rfl, k1, k2, k3⟩
        have hpush : Hid (∀ w2 tmp v' w5 b3 c3, RB w2 b3 bs → w.heap.size ≤ b3 → D.size ≤ c3 → Below w.heap.size w w2 → w5.ownsRow 0 73 2 v' (D.np + 1) (rpl P PC D.ps D.size D.np ++ [.int .i64 s, .slice (some ⟨b3, 0, none⟩) D.size c3]) → (w2.alloc tmp).grownBy w5 lv.ownBlock → (v'.ownBlock = lv.ownBlock ∨ v'.ownBlock = some (w2.alloc tmp).heap.size) →
            w5.cell? ⟨g, 2, none⟩ = some lv ∧ w5.frozen? ⟨g, 2, none⟩ = false ∧ RPut w (w5.setCell ⟨g, 2, none⟩ v') S (fun b => S b ∨ (w.heap.size ≤ b ∧ b < w5.heap.size)) g dv v' Q C (fun j => if j = D.np then b3 else P j) (fun j => if j = D.np then c3 else PC j) (D.push s.toNat bs)) := fun w2 tmp v' w5 b3 c3 hq hq0 hc0 hb2 hown hg hat => by
          have hb3 : Below w.heap.size w (w2.alloc tmp) := hb2.trans ((Below.refl _ w2).alloc hb2.size _)
          have hX3 := hX.out.below hb3
          have gne : some g ≠ lv.ownBlock := fun e => hX.out.ne (b := g) (.inr (.inl e.symm)) rfl
          have hgb := hg.block g hX3.blk.lt gne
          refine ⟨(World.cell?_of_block (a := ⟨g, 2, none⟩) hgb).trans hX3.fields.pend, (World.frozen?_of_block (a := ⟨g, 2, none⟩) hgb).trans (hX3.fields.fz 2), ?_⟩
          exact hX.out.push hS.out hlt.out hsn hbl2 hbl.out hb3 (hq.keep (((Below.refl _ w2).alloc (Nat.le_refl _) tmp).block _ hq.lt)) hq0 hc0 (by rw [hsI.out]; exact hown) hg hat
        have hown0 : Hid (∀ w2 tmp, Below w.heap.size w w2 → (w2.alloc tmp).ownsRow 0 73 2 lv D.np (rpl P PC D.ps D.size D.np)) := fun w2 tmp hb2 => (hX.out.below (hb2.trans ((Below.refl _ w2).alloc hb2.size tmp))).own
        have hpd : Hid (∀ w2, Below w.heap.size w w2 → w2.cell? ⟨g, 2, none⟩ = some lv) := fun w2 hb2 => (hX.out.below hb2).fields.pend
        have q1 := hpd.out _ hbE
        have dO : Hid (∀ w2 S' v' P' PC', RPut w w2 S S' g dv v' Q C P' PC' (D.push s.toNat bs) → Calls Try.prog 44 #[.pointer (some ⟨g, 0, none⟩)] w2 fun e w' => e = .returned (.bool (decide ((D.push s.toNat bs).oper.1 ≠ 0))) ∧ ∃ S', RK w' S' g (D.push s.toNat bs).oper.2 ∧ Step w w' S S') := fun w2 S' v' P' PC' hP => by
          refine (rfails_any g dv v' Q C P' PC' _ w2 hP.dx).mono ?_
          rintro e w3 ⟨rfl, hX3, hg3⟩
          refine ⟨rfl, S', ⟨⟨dv, v', Q, C, P', PC', hX3, fun b hb => hP.fp b ?_⟩, fun b hb => Nat.lt_of_lt_of_le (hP.lt b hb) hg3.size⟩, hP.step.trans (Step.of_grown hg3 (hP.fp g (.inl rfl)))⟩
          rcases Dsk.oper_cases _ hP.dx.wf with ⟨_, e⟩ | ⟨_, e⟩ | ⟨_, e⟩ <;> rw [e] at hb <;> exact hb
        have hr8 : Hid ((D.push s.toNat bs).oper.1 = 0 ∨ (D.push s.toNat bs).oper.1 = 8) := by
          have hw : (D.push s.toNat bs).WF := hwf.out.push hsn hbl2 hbl.out
          rcases Dsk.oper_cases _ hw with ⟨_, e⟩ | ⟨_, e⟩ | ⟨_, e⟩ <;> rw [e]
          · exact .inl rfl
          · exact .inl rfl
          · exact .inr rfl
        obtain ⟨r, hr⟩ : ∃ r, Hid ((D.push s.toNat bs).oper = r) := ⟨_, rfl⟩
        obtain ⟨xs, hxs⟩ : ∃ xs, Hid (rpl P PC D.ps D.size D.np = xs) := ⟨_, rfl⟩
        obtain ⟨z, hzz⟩ : ∃ z, Hid (D.size = z) := ⟨_, rfl⟩
        obtain ⟨m, hm⟩ : ∃ m, Hid (D.np = m) := ⟨_, rfl⟩
        have hzl : len = z := by rw [hz, hzz.out]
        have hlen : Hid (z = bs.length) := by show _ = _; rw [← hzl]; exact hl
        rw [hxs.out] at hpush hown0
        rw [hm.out] at hnp
        rw [hr.out] at dO hr8 ⊢
        rw [hzz.out] at f0 hz2
        simp only [hzz.out] at hpush hH2
        simp only [hm.out] at hpush hown0
        subst hzl
        have tl : ((len : Int) != (len : Int)) = false := by simp
        obtain ⟨r1, r2⟩ := r
        have hbls : Hid (0 + bs.length ≤ 140737488355328) := by show _ ≤ _; rw [← hlen.out]; omega
        clear hX hS hlt hwf hz1 hn2 he hl hbl2 hz hd hh hsn h hby hbl f1 f4 F hbE
        rcases hr8.out with h8 | h8
        all_goals
          replace h8 : r1 = _ := h8
          subst h8
          go_enter Try.func32, Try.ntmps32
          go_wp2_with (fail)
          refine dH.out.mono ?_
          rintro e w1 ⟨rfl, rfl⟩
          go_wp2_with (fail)
          go_region_law (first
            | (refine step_app_bytes _ rfl (.tmp 30) (.tmp 31) rfl w.heap.size (.slice (some ⟨w.heap.size, 0, none⟩) 0 0) 0 [] (by first | (simp [Act.eval]; done) | simp [Act.eval, Act.put]) (hA.out _ rfl) (some ⟨ba, oa, none⟩) len cap bs (by first | (simp [Act.eval]; done) | simp [Act.eval, Act.put]) hlen.out (hB.out _ rfl rfl rfl rfl) (fun e => by cases e) hbls.out (hC.out _ rfl) ?_; intro v3 w3 ho3 hg3; obtain ⟨hb3, b3, c3, rfl, y1, y2, y3⟩ := hH2.out _ _ _ (by rfl) (by rfl) (by rfl) (by rfl) ho3 hg3; have p2 := hpd.out w3 hb3; have p3 := hpd.out (w3.alloc (.cells #[.int .i64 s, .slice (some ⟨b3, 0, none⟩) len c3] 73)) (hb3.alloc hb3.size _); replace hb3 := hidIt hb3; replace y1 := hidIt y1; replace y2 := hidIt y2; replace y3 := hidIt y3; clear ho3 hg3)
            | (refine step_push_pd _ rfl (.tmp 28) (.tmp 34) rfl lv m xs (by first | (simp [Act.eval]; done) | simp [Act.eval, Act.put]) (hown0.out _ _ hb3.out) w3.heap.size (.int .i64 s) (.slice (some ⟨b3, 0, none⟩) len c3) (by first | (simp [Act.eval]; done) | simp [Act.eval, Act.put]) (Blk.new w3 _ _) rfl rfl (by omega) ?_; intro v5 w5 ho5 hg5 ha5; obtain ⟨p5, p6, hP⟩ := hpush.out _ _ _ _ _ _ y3.out y1.out y2.out hb3.out ho5 hg5 ha5; replace hP := hidIt hP; obtain ⟨b5, c5, rfl⟩ := own_shape ho5; clear ho5 hg5 ha5))
          all_goals
            go_wp2_with (fail)
            refine (dO.out _ _ _ _ _ hP.out).mono ?_
            rintro e w6 ⟨rfl, hD6⟩
            replace hD6 := hidIt hD6
            go_wp2_with (fail)
            go_ret
            exact ⟨rfl, hD6.out⟩
      · have he : Hid (D.write s bs = (1, D)) := by show _ = _; unfold Dsk.write; rw [if_neg hd, if_neg (fun e => hz (by rw [hl, e.2]))]
        have t1 : ((len : Int) != (D.size : Int)) = true := by simp; omega
        rw [he.out]
        clear hz hl hh
        go_enter Try.func32, Try.ntmps32
        go_wp2_with (fail)
        refine dH.out.mono ?_
        rintro e w1 ⟨rfl, rfl⟩
        go_wp2_with (fail)
        go_ret
        exact ⟨rfl, S, h.out, Step.refl _ _⟩
    · rw [decide_eq_false hh] at dH
      have he : Hid (D.write s bs = (1, D)) := by show _ = _; unfold Dsk.write; rw [if_neg hd, if_neg (fun e => hh e.1)]
      rw [he.out]
      clear hh
      go_enter Try.func32, Try.ntmps32
      go_wp2_with (fail)
      refine dH.out.mono ?_
      rintro e w1 ⟨rfl, rfl⟩
      go_wp2_with (fail)
      go_ret
      exact ⟨rfl, S, h.out, Step.refl _ _⟩
end Go.Proofs.Ytlpggkdmjmlpkaa
