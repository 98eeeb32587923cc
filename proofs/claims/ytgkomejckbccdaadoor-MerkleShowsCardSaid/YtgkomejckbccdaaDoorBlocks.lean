import Derived.Test.YtgkomejckbccdaaDoorChunk
namespace Go.Proofs.YtgkomejckbccdaaDoor
open Go.RowKit Go.Shelf
attribute [local go_sem] Oper.semAt_some
/-- the leaf of a block -/
def blkLeaf (xs : List Nat) (sz k : Nat) : ByteArray := Mk.leaf ((xs.drop (k * sz)).take (bln xs.length sz k))
def blkLeaves (xs : List Nat) (sz : Nat) (ks : List Nat) : List ByteArray := ks.map (blkLeaf xs sz)
theorem blkLeaves_snoc (xs : List Nat) (sz k : Nat) (pre : List Nat) : blkLeaves xs sz (pre ++ [k]) = blkLeaves xs sz pre ++ [blkLeaf xs sz k] := by simp [blkLeaves]
theorem keepsOthers_below {W W' : World} (h : Below W.heap.size W W') : KeepsOthers W W' :=
  ⟨h.size, fun k o hk _ => (h.block k (by
    rcases Nat.lt_or_ge k W.heap.size with h1 | h1
    · exact h1
    · rw [Array.getElem?_eq_none h1] at hk; cases hk)).trans hk⟩
theorem boxed_below {W W' : World} {B : Nat} {t : TypeId} {v : Value} (h : Boxed W B t v) (hb : Below W.heap.size W W') : Boxed W' B t v := (hb.block B h.lt).trans h
theorem Kc.b {n₀ Bs Bn : Nat} {w : World} (hn : n₀ ≤ w.heap.size) (hB : Bs < w.heap.size) (hC : Bn < w.heap.size) (W : World) (l : Nat) (o o' : Obj) (hl : w.heap.size ≤ l) (h : W.heap[l]? = some o) (h1 : o.isCells = false) (h2 : o.isWalk = false) : Kc n₀ Bs Bn W (W.putObj l o') :=
  ⟨belowK_b hn W l o o' hl h h1 h2, (belowK_b (Nat.le_refl _) W l o o' hl h h1 h2).block Bs hB, (belowK_b (Nat.le_refl _) W l o o' hl h h1 h2).block Bn hC⟩
theorem step_snoc_strIn {F : Fence} {n : Nat} (w : World) {ops : Array Oper} {o : Oper} {act : Act} {K : Act → World → Prop} {Q : Exit → Act → World → Prop} {E : Prop} (hgd : o.guard = none) (s x : Operand)
    (ho : o.op = .call { callee := .builtin .append, args := #[s, x], argTypes := #[27, 27] })
    (base : Nat) (v : Value) (k : Nat) (ss : List ByteArray) (hs : act.eval s = v) (hown : w.ownsRow base 9 1 v k (svals ss))
    (q : Nat) (st : ByteArray) (hx : act.eval x = .slice (some ⟨q, 0, none⟩) 1 1) (hc : w.cell? ⟨q, 0, none⟩ = some (.string st)) (hbig : k ≤ 1000000000) (hbase : base ≤ w.heap.size)
    (h : ∀ v' w', w'.ownsRow base 9 1 v' (k + 1) (svals (ss ++ [st])) → w.grownBy w' v.ownBlock → K (act.put o.dst v') w') :
    if Region.wanted o (yielded ops act.tmps) = true then Oper.wpIn F n Tryd.prog o act w K Q else E := by
  have hw : Region.wanted o (yielded ops act.tmps) = true := by simp [Region.wanted, hgd]
  rw [if_pos hw]
  obtain ⟨i0, hi, hz0, hz1, hz2⟩ := info_parts infoStr
  obtain ⟨v', w', hrun, r1, r2, _⟩ := run_append_own (P := Tryd.prog) w base 27 o.type 9 i0 (.string ByteArray.empty) 1 16 Tryd.underlying27 hi hz0 hz1 hz2 rfl (by decide) v k (svals ss) hown ⟨q, 0, none⟩ 1 1 [.string st] rfl (fun j u hu => by
    match j, hu with
    | 0, hu => simp at hu; subst hu; exact hc) (fun u hu => by simp at hu; subst hu; rfl) (by unfold maxLen; omega) (by omega) hbase
  unfold Oper.wpIn
  refine ⟨?_, ?_⟩
  · simp [Oper.about, ho, resolve, Target.leads, Sem.run_pure]
  · rw [Oper.semAt_plain F _ _ (by rw [ho]; intro c hc'; cases hc')]
    simp [execOp, ho, resolve, invoke, builtin, hs, hx, hrun, Result.andThen]
    exact h v' w' (ownS_snoc r1) r2
theorem blocks_bad1 (a : Option Addr) (len cap : Nat) (sz : Int) (h : sz < 1) (w : World) :
    Calls Tryd.prog 41 #[.slice a len cap, .int .i64 sz] w fun e w' => e = .returned (.tuple #[.slice none 0 0, .int .i64 1]) ∧ Below w.heap.size w w' := by
  go_enter Tryd.func41, Tryd.ntmps41
  go_wp2_with (fail)
  go_ret2
  exact ⟨rfl, Below.refl _ _⟩
theorem blocks_bad2 (a : Option Addr) (len cap : Nat) (sz : Int) (h : ¬ sz < 1) (hl : 1048576 < len) (w : World) :
    Calls Tryd.prog 41 #[.slice a len cap, .int .i64 sz] w fun e w' => e = .returned (.tuple #[.slice none 0 0, .int .i64 2]) ∧ Below w.heap.size w w' := by
  have g2 : (1048576 : Int) < (len : Int) := by omega
  go_enter Tryd.func41, Tryd.ntmps41
  go_wp2_with (fail)
  go_ret2
  exact ⟨rfl, Below.refl _ _⟩
set_option maxRecDepth 100000 in
set_option maxHeartbeats 4000000 in
theorem blocks_good (a : Option Addr) (len cap sz : Nat) (xs : List Nat) (hs1 : 1 ≤ sz) (hs2 : sz < 9223372036854775808) (hlen : len ≤ 1048576) (w : World) (hL : Laid w) (hX : RowB w a len cap xs) :
    Calls Tryd.prog 41 #[.slice a len cap, .int .i64 (sz : Int)] w fun e w' => (∃ v, e = .returned (.tuple #[v, .int .i64 0]) ∧ w'.ownsRow w.heap.size 9 1 v (rounds len sz) (svals (blkLeaves xs sz (List.range (rounds len sz))))) ∧ Below w.heap.size w w' := by
  have hX2 := hidIt hX
  have hln : Hid (len = xs.length) := hX.len
  have g1 : ¬ (sz : Int) < 1 := by omega
  have g2 : ¬ (1048576 : Int) < (len : Int) := by omega
  have hmx : Tryd.prog.follows Departure.mixedOrders = true := by kernel_rfl
  have hrl : Hid (rounds len sz ≤ 1048577) := by
    show _ ≤ _
    unfold rounds
    split
    · omega
    · have := Nat.div_le_self (len - 1) sz; omega
  have lcap : len ≤ cap := by rw [hX.len]; exact hX.lecap
  clear hX
  refine (callsIn_wide (n := 5)).1 ?_
  refine callsIn_of_wp_marks Tryd.func41 rfl trivial ?_ rfl
  simp only [Tryd.ntmps41, List.size_toArray, List.length_cons, List.length_nil, Nat.reduceAdd, Nat.reduceSub, Array.replicate_succ, Array.replicate_zero, List.push_toArray, List.append_toArray, List.nil_append, List.cons_append]
  gi_wp2_with (fail)
  refine ⟨trivial, (chunk_in Fence.wide _ trivial rfl _ _ _ sz hs1 _).mono ?_⟩
  rintro e w' ⟨rfl, rfl⟩
  gi_wp2_with (fail)
  have bL := Boxed.new w 27 (.slice none 0 0)
  have bS := Boxed.new (w.alloc (.cells #[.slice none 0 0] 27)) 22 (.slice a len cap)
  have bN := Boxed.new ((w.alloc (.cells #[.slice none 0 0] 27)).alloc (.cells #[.slice a len cap] 22)) 3 (.int .i64 (sz : Int))
  rw [World.size_alloc] at bS
  rw [World.size_alloc, World.size_alloc] at bN
  have hB0 : Below w.heap.size w (((w.alloc (.cells #[.slice none 0 0] 27)).alloc (.cells #[.slice a len cap] 22)).alloc (.cells #[.int .i64 (sz : Int)] 3)) := (((Below.refl _ w).alloc (Nat.le_refl _) _).alloc (by simp) _).alloc (by simp <;> omega) _
  refine wpIn_rangeFunc_ownG rfl (by decide) (gf := 88) (lb := #[.pointer (some ⟨w.heap.size + 1, 0, none⟩), .pointer (some ⟨w.heap.size + 1 + 1, 0, none⟩)]) rfl trivial (enters_of Tryd.func88 (by kernel_rfl) rfl)
    (chunk_stops Fence.wide _ trivial rfl (by decide) (w.heap.size + 1) (w.heap.size + 1 + 1) w.heap.size a len cap sz lcap hlen hs1 hs2 _ (by simp <;> omega) (by simp) ((bS.alloc _).cell) bN.cell) Kc.t (Kc.b (by simp <;> omega) (by simp <;> omega) (by simp)) (Below.refl _ _) (fun _ => rfl)
    (fun pre W => (∃ v, Boxed W w.heap.size 27 v ∧ W.ownsRow w.heap.size 9 1 v pre.length (svals (blkLeaves xs sz pre)) ∧ True) ∧ Below w.heap.size w W ∧ Boxed W (w.heap.size + 1) 22 (.slice a len cap) ∧ Boxed W (w.heap.size + 1 + 1) 3 (.int .i64 (sz : Int)))
    (fun _ _ _ => False)
    (OwnFrom.and (Own.from (holdsRow_own w.heap.size w.heap.size 27 9 1 (fun pre : List Nat => pre.length) (fun pre => svals (blkLeaves xs sz pre)) (fun _ _ => True)) _) (OwnFrom.and (ownFrom_below (Nat.le_refl _) (by simp <;> omega)) (OwnFrom.and (Own.from (boxed_own _ _ _) _) (Own.from (boxed_own _ _ _) _))))
    (fun _ _ _ _ _ hs _ _ => hs)
    ⟨⟨_, (bL.alloc _).alloc _, World.ownsRow_nil _ _ _ _, trivial⟩, hB0, bS.alloc _, bN⟩
    (fun k => { tmps := #[.slice a len cap, .int .i64 (sz : Int), undef, undef, .slice none 0 0, .int .i64 0, .pointer (some ⟨w.heap.size, 0, none⟩), .slice (adr a sz k) (bln len sz k) (bln len sz k), .bool false, .int .i64 (sz : Int), .bool false, .bool false, .slice a len cap, .int .i64 (len : Int), .bool false, .slice a len cap, .int .i64 (sz : Int), .func (.func 88) #[] #[.pointer (some ⟨w.heap.size + 1, 0, none⟩), .pointer (some ⟨w.heap.size + 1 + 1, 0, none⟩)], .slice (adr a sz k) (bln len sz k) (bln len sz k), undef, undef, undef, undef, undef, undef], defers := [] }) ?assign ?body ?done ?stop
  case assign =>
    intro l k W K hK
    gi_wp2
    exact hK
  case body =>
    rintro l pre k W ⟨⟨v, hbox, hown, _⟩, hB, hS, hN⟩ hpl
    have hnW : Hid (w.heap.size ≤ W.heap.size) := hB.size
    have hS : Hid (W.heap[w.heap.size + 1]? = some (.cells #[.slice a len cap] 22 (0, 0))) := hS
    have hN : Hid (W.heap[w.heap.size + 1 + 1]? = some (.cells #[.int .i64 (sz : Int)] 3 (0, 0))) := hN
    obtain ⟨x, hx⟩ : ∃ x, Hid (blkLeaf xs sz k = x) := ⟨_, rfl⟩
    obtain ⟨ad, had⟩ : ∃ z, Hid (adr a sz k = z) := ⟨_, rfl⟩
    obtain ⟨bl, hbl⟩ : ∃ z, Hid (bln len sz k = z) := ⟨_, rfl⟩
    rw [had.out, hbl.out]
    obtain ⟨wd, hwd⟩ : ∃ wd, Hid (W.drew = wd) := ⟨_, rfl⟩
    have KW : Hid (KeepsOthers W wd ∧ Below W.heap.size W wd) := by show _ ∧ _; rw [← hwd.out]; exact ⟨keepsOthers_below (Below.refl _ _).drew, (Below.refl _ _).drew⟩
    have hboxd : Boxed wd w.heap.size 27 v := by rw [← hwd.out]; exact hbox
    have hownd : wd.ownsRow w.heap.size 9 1 v pre.length (svals (blkLeaves xs sz pre)) := by rw [← hwd.out]; exact hown
    have hSd : Boxed wd (w.heap.size + 1) 22 (.slice a len cap) := by rw [← hwd.out]; exact hS.out
    have hNd : Boxed wd (w.heap.size + 1 + 1) 3 (.int .i64 (sz : Int)) := by rw [← hwd.out]; exact hN.out
    have hBd : Below w.heap.size w wd := by rw [← hwd.out]; exact hB.drew
    have hby : Bytes wd ad ((xs.drop (k * sz)).take bl) := by
      rw [← had.out, adr]
      exact sub_bytes (hX2.out.bytes.below hBd) (k * sz) bl
    have hbll : Hid (bl = ((xs.drop (k * sz)).take bl).length) := by
      show _ = _
      rw [List.length_take, List.length_drop, ← hln.out, ← hbl.out]; unfold bln; omega
    have hblb : Hid (bl ≤ len) := by show _ ≤ _; rw [← hbl.out]; unfold bln; omega
    have dL : Hid (Calls Tryd.prog 17 #[.slice ad bl bl] wd fun e w' => e = .returned (.string x) ∧ Below wd.heap.size wd w') := by
      have h5 := leaf_any ad bl bl ((xs.drop (k * sz)).take bl) hbll.out (fun y hy => hX2.out.lt y (List.mem_of_mem_drop (List.mem_of_mem_take hy))) (by rw [← hbll.out]; have := hblb.out; omega) (by rw [← hbll.out]; exact Nat.le_refl _) wd (hL.below hBd hL.two) hby
      have h6 : Mk.leaf ((xs.drop (k * sz)).take bl) = x := by rw [← hx.out, blkLeaf, ← hln.out, hbl.out]
      rw [h6] at h5; exact h5
    have hcl := Boxed.cell hboxd
    have hpl2 : Hid (pre.length ≤ 1000000000) := by show _ ≤ _; have := hrl.out; omega
    clear hbox hown hB
    gi_wp2
    refine wpIn_region_any (by assumption) ?_
    try (change wpAnyIn _ _ _ _ _ _ _ _ _ (World.drew _))
    rw [hwd.out]
    refine wpAnyIn_ready (rs := [0, 1]) (by kernel_rfl) (by simp) ?_
    refine AllReadyIn.cons rfl (fun K hK => ?_) ?_
    · go_simp
      refine hK _ _ ?_; clear hK K
      refine wpAnyIn_ready (rs := [1]) (by kernel_rfl) (by simp) ?_
      refine AllReadyIn.cons rfl (fun K hK => ?_) ?_
      · go_simp
        refine hK _ _ ?_; clear hK K
        refine wpAnyIn_ready (rs := [2]) (by kernel_rfl) (by simp) ?_
        refine AllReadyIn.cons rfl (fun K hK => ?_) ?_
        · go_simp
          refine ⟨trivial, (CallsIn.inRound l (callsIn_wide.2 dL.out)).mono ?_⟩
          rintro e w3 ⟨rfl, hb3⟩
          have hcl3 := Boxed.cell (boxed_below hboxd hb3)
          have hcl4 := Boxed.cell (Boxed.alloc (boxed_below hboxd hb3) (.cells #[.string x] 9))
          gi_wp2_with (fail)
          refine wpAnyIn_ready (rs := [3]) (by kernel_rfl) (by simp) ?_
          refine AllReadyIn.cons rfl (fun K hK => ?_) ?_
          · go_simp
            refine hK _ _ ?_; clear hK K
            refine wpAnyIn_ready (rs := [4]) (by kernel_rfl) (by simp) ?_
            refine AllReadyIn.cons rfl (fun K hK => ?_) ?_
            · refine step_snoc_strIn _ rfl _ _ rfl w.heap.size v pre.length (blkLeaves xs sz pre) rfl ((own_belowS hownd hb3).alloc _) w3.heap.size x rfl (str_new _ _) hpl2.out (Nat.le_trans (Nat.le_trans hBd.size hb3.size) (by simp)) ?_
              intro v5 w5 hr5 hg5
              obtain ⟨g', cap', rfl⟩ := ownsRow_succ hr5
              obtain ⟨hv1, hv2, hr2, hk2, hb2⟩ := Boxed.appended (boxed_below hboxd hb3) (by decide) (own_belowS hownd hb3) (Nat.le_trans hBd.size hb3.size) (Nat.le_refl _) hr5 hg5
              have hc1 := Boxed.cell hv1
              have hf1 := Boxed.frozen hv1
              refine hK _ _ ?_; clear hK K
              refine wpAnyIn_ready (rs := [5]) (by kernel_rfl) (by simp) ?_
              refine AllReadyIn.cons rfl (fun K hK => ?_) ?_
              · go_simp
                refine hK _ _ ?_; clear hK K
                refine wpAnyIn_done (by kernel_rfl) ?_ _
                gi_wp2
                refine ⟨(KW.out.1.trans ((keepsOthers_below hb3).trans hk2)).from _, ⟨((KW.out.2.mono hnW.out).trans (hb3.mono hBd.size)).trans hb2, ?_, ?_⟩, ⟨_, hv2, ?_, trivial⟩, (hBd.trans (hb3.mono hBd.size)).trans hb2, ?_, ?_⟩
                · exact Eq.trans ((((boxed_below hSd hb3).alloc _).kept hg5 ((boxed_below hSd hb3).not_row (by decide) (own_belowS hownd hb3))).other (by omega) _) hS.out.symm
                · exact Eq.trans ((((boxed_below hNd hb3).alloc _).kept hg5 ((boxed_below hNd hb3).not_row (by decide) (own_belowS hownd hb3))).other (by omega) _) hN.out.symm
                · rw [blkLeaves_snoc, hx.out, List.length_append]; exact hr2
                · exact (((boxed_below hSd hb3).alloc _).kept hg5 ((boxed_below hSd hb3).not_row (by decide) (own_belowS hownd hb3))).other (by omega) _
                · exact (((boxed_below hNd hb3).alloc _).kept hg5 ((boxed_below hNd hb3).not_row (by decide) (own_belowS hownd hb3))).other (by omega) _
              exact AllReadyIn.nil
            exact AllReadyIn.nil
          exact AllReadyIn.nil
        exact AllReadyIn.nil
      exact AllReadyIn.nil
    refine AllReadyIn.cons rfl (fun K hK => ?_) ?_
    · go_simp
      refine hK _ _ ?_; clear hK K
      refine wpAnyIn_ready (rs := [0, 2]) (by kernel_rfl) (by simp) ?_
      refine AllReadyIn.cons rfl (fun K hK => ?_) ?_
      · go_simp
        refine hK _ _ ?_; clear hK K
        refine wpAnyIn_ready (rs := [2]) (by kernel_rfl) (by simp) ?_
        refine AllReadyIn.cons rfl (fun K hK => ?_) ?_
        · go_simp
          refine ⟨trivial, (CallsIn.inRound l (callsIn_wide.2 dL.out)).mono ?_⟩
          rintro e w3 ⟨rfl, hb3⟩
          have hcl3 := Boxed.cell (boxed_below hboxd hb3)
          have hcl4 := Boxed.cell (Boxed.alloc (boxed_below hboxd hb3) (.cells #[.string x] 9))
          gi_wp2_with (fail)
          refine wpAnyIn_ready (rs := [3]) (by kernel_rfl) (by simp) ?_
          refine AllReadyIn.cons rfl (fun K hK => ?_) ?_
          · go_simp
            refine hK _ _ ?_; clear hK K
            refine wpAnyIn_ready (rs := [4]) (by kernel_rfl) (by simp) ?_
            refine AllReadyIn.cons rfl (fun K hK => ?_) ?_
            · refine step_snoc_strIn _ rfl _ _ rfl w.heap.size v pre.length (blkLeaves xs sz pre) rfl ((own_belowS hownd hb3).alloc _) w3.heap.size x rfl (str_new _ _) hpl2.out (Nat.le_trans (Nat.le_trans hBd.size hb3.size) (by simp)) ?_
              intro v5 w5 hr5 hg5
              obtain ⟨g', cap', rfl⟩ := ownsRow_succ hr5
              obtain ⟨hv1, hv2, hr2, hk2, hb2⟩ := Boxed.appended (boxed_below hboxd hb3) (by decide) (own_belowS hownd hb3) (Nat.le_trans hBd.size hb3.size) (Nat.le_refl _) hr5 hg5
              have hc1 := Boxed.cell hv1
              have hf1 := Boxed.frozen hv1
              refine hK _ _ ?_; clear hK K
              refine wpAnyIn_ready (rs := [5]) (by kernel_rfl) (by simp) ?_
              refine AllReadyIn.cons rfl (fun K hK => ?_) ?_
              · go_simp
                refine hK _ _ ?_; clear hK K
                refine wpAnyIn_done (by kernel_rfl) ?_ _
                gi_wp2
                refine ⟨(KW.out.1.trans ((keepsOthers_below hb3).trans hk2)).from _, ⟨((KW.out.2.mono hnW.out).trans (hb3.mono hBd.size)).trans hb2, ?_, ?_⟩, ⟨_, hv2, ?_, trivial⟩, (hBd.trans (hb3.mono hBd.size)).trans hb2, ?_, ?_⟩
                · exact Eq.trans ((((boxed_below hSd hb3).alloc _).kept hg5 ((boxed_below hSd hb3).not_row (by decide) (own_belowS hownd hb3))).other (by omega) _) hS.out.symm
                · exact Eq.trans ((((boxed_below hNd hb3).alloc _).kept hg5 ((boxed_below hNd hb3).not_row (by decide) (own_belowS hownd hb3))).other (by omega) _) hN.out.symm
                · rw [blkLeaves_snoc, hx.out, List.length_append]; exact hr2
                · exact (((boxed_below hSd hb3).alloc _).kept hg5 ((boxed_below hSd hb3).not_row (by decide) (own_belowS hownd hb3))).other (by omega) _
                · exact (((boxed_below hNd hb3).alloc _).kept hg5 ((boxed_below hNd hb3).not_row (by decide) (own_belowS hownd hb3))).other (by omega) _
              exact AllReadyIn.nil
            exact AllReadyIn.nil
          exact AllReadyIn.nil
        exact AllReadyIn.nil
      refine AllReadyIn.cons rfl (fun K hK => ?_) ?_
      · go_simp
        refine ⟨trivial, (CallsIn.inRound l (callsIn_wide.2 dL.out)).mono ?_⟩
        rintro e w3 ⟨rfl, hb3⟩
        have hcl3 := Boxed.cell (boxed_below hboxd hb3)
        have hcl4 := Boxed.cell (Boxed.alloc (boxed_below hboxd hb3) (.cells #[.string x] 9))
        gi_wp2_with (fail)
        refine wpAnyIn_ready (rs := [0, 3]) (by kernel_rfl) (by simp) ?_
        refine AllReadyIn.cons rfl (fun K hK => ?_) ?_
        · go_simp
          refine hK _ _ ?_; clear hK K
          refine wpAnyIn_ready (rs := [3]) (by kernel_rfl) (by simp) ?_
          refine AllReadyIn.cons rfl (fun K hK => ?_) ?_
          · go_simp
            refine hK _ _ ?_; clear hK K
            refine wpAnyIn_ready (rs := [4]) (by kernel_rfl) (by simp) ?_
            refine AllReadyIn.cons rfl (fun K hK => ?_) ?_
            · refine step_snoc_strIn _ rfl _ _ rfl w.heap.size v pre.length (blkLeaves xs sz pre) rfl ((own_belowS hownd hb3).alloc _) w3.heap.size x rfl (str_new _ _) hpl2.out (Nat.le_trans (Nat.le_trans hBd.size hb3.size) (by simp)) ?_
              intro v5 w5 hr5 hg5
              obtain ⟨g', cap', rfl⟩ := ownsRow_succ hr5
              obtain ⟨hv1, hv2, hr2, hk2, hb2⟩ := Boxed.appended (boxed_below hboxd hb3) (by decide) (own_belowS hownd hb3) (Nat.le_trans hBd.size hb3.size) (Nat.le_refl _) hr5 hg5
              have hc1 := Boxed.cell hv1
              have hf1 := Boxed.frozen hv1
              refine hK _ _ ?_; clear hK K
              refine wpAnyIn_ready (rs := [5]) (by kernel_rfl) (by simp) ?_
              refine AllReadyIn.cons rfl (fun K hK => ?_) ?_
              · go_simp
                refine hK _ _ ?_; clear hK K
                refine wpAnyIn_done (by kernel_rfl) ?_ _
                gi_wp2
                refine ⟨(KW.out.1.trans ((keepsOthers_below hb3).trans hk2)).from _, ⟨((KW.out.2.mono hnW.out).trans (hb3.mono hBd.size)).trans hb2, ?_, ?_⟩, ⟨_, hv2, ?_, trivial⟩, (hBd.trans (hb3.mono hBd.size)).trans hb2, ?_, ?_⟩
                · exact Eq.trans ((((boxed_below hSd hb3).alloc _).kept hg5 ((boxed_below hSd hb3).not_row (by decide) (own_belowS hownd hb3))).other (by omega) _) hS.out.symm
                · exact Eq.trans ((((boxed_below hNd hb3).alloc _).kept hg5 ((boxed_below hNd hb3).not_row (by decide) (own_belowS hownd hb3))).other (by omega) _) hN.out.symm
                · rw [blkLeaves_snoc, hx.out, List.length_append]; exact hr2
                · exact (((boxed_below hSd hb3).alloc _).kept hg5 ((boxed_below hSd hb3).not_row (by decide) (own_belowS hownd hb3))).other (by omega) _
                · exact (((boxed_below hNd hb3).alloc _).kept hg5 ((boxed_below hNd hb3).not_row (by decide) (own_belowS hownd hb3))).other (by omega) _
              exact AllReadyIn.nil
            exact AllReadyIn.nil
          exact AllReadyIn.nil
        refine AllReadyIn.cons rfl (fun K hK => ?_) ?_
        · go_simp
          refine hK _ _ ?_; clear hK K
          refine wpAnyIn_ready (rs := [0]) (by kernel_rfl) (by simp) ?_
          refine AllReadyIn.cons rfl (fun K hK => ?_) ?_
          · go_simp
            refine hK _ _ ?_; clear hK K
            refine wpAnyIn_ready (rs := [4]) (by kernel_rfl) (by simp) ?_
            refine AllReadyIn.cons rfl (fun K hK => ?_) ?_
            · refine step_snoc_strIn _ rfl _ _ rfl w.heap.size v pre.length (blkLeaves xs sz pre) rfl ((own_belowS hownd hb3).alloc _) w3.heap.size x rfl (str_new _ _) hpl2.out (Nat.le_trans (Nat.le_trans hBd.size hb3.size) (by simp)) ?_
              intro v5 w5 hr5 hg5
              obtain ⟨g', cap', rfl⟩ := ownsRow_succ hr5
              obtain ⟨hv1, hv2, hr2, hk2, hb2⟩ := Boxed.appended (boxed_below hboxd hb3) (by decide) (own_belowS hownd hb3) (Nat.le_trans hBd.size hb3.size) (Nat.le_refl _) hr5 hg5
              have hc1 := Boxed.cell hv1
              have hf1 := Boxed.frozen hv1
              refine hK _ _ ?_; clear hK K
              refine wpAnyIn_ready (rs := [5]) (by kernel_rfl) (by simp) ?_
              refine AllReadyIn.cons rfl (fun K hK => ?_) ?_
              · go_simp
                refine hK _ _ ?_; clear hK K
                refine wpAnyIn_done (by kernel_rfl) ?_ _
                gi_wp2
                refine ⟨(KW.out.1.trans ((keepsOthers_below hb3).trans hk2)).from _, ⟨((KW.out.2.mono hnW.out).trans (hb3.mono hBd.size)).trans hb2, ?_, ?_⟩, ⟨_, hv2, ?_, trivial⟩, (hBd.trans (hb3.mono hBd.size)).trans hb2, ?_, ?_⟩
                · exact Eq.trans ((((boxed_below hSd hb3).alloc _).kept hg5 ((boxed_below hSd hb3).not_row (by decide) (own_belowS hownd hb3))).other (by omega) _) hS.out.symm
                · exact Eq.trans ((((boxed_below hNd hb3).alloc _).kept hg5 ((boxed_below hNd hb3).not_row (by decide) (own_belowS hownd hb3))).other (by omega) _) hN.out.symm
                · rw [blkLeaves_snoc, hx.out, List.length_append]; exact hr2
                · exact (((boxed_below hSd hb3).alloc _).kept hg5 ((boxed_below hSd hb3).not_row (by decide) (own_belowS hownd hb3))).other (by omega) _
                · exact (((boxed_below hNd hb3).alloc _).kept hg5 ((boxed_below hNd hb3).not_row (by decide) (own_belowS hownd hb3))).other (by omega) _
              exact AllReadyIn.nil
            exact AllReadyIn.nil
          exact AllReadyIn.nil
        exact AllReadyIn.nil
      exact AllReadyIn.nil
    exact AllReadyIn.nil
  case done =>
    rintro D ys W hD rfl ⟨⟨v, hbox, hown, _⟩, hB, _, _⟩ hK
    have hc := Boxed.cell hbox
    rw [List.length_range] at hown
    gi_wp2
    refine ⟨by simp, .inl ⟨_, _, rfl, run_takeDeferred hK, ?_⟩⟩
    obtain ⟨v', _, hr', rfl⟩ := OwnFrom.putObj (Own.from (holdsRow_own w.heap.size w.heap.size 27 9 1 (fun _ : Unit => rounds len sz) (fun _ => svals (blkLeaves xs sz (List.range (rounds len sz)))) (fun _ u => u = v)) 0) (s := ()) (.deferred none) ⟨v, hbox, hown, rfl⟩ (Nat.zero_le _) hK rfl
    exact ⟨_, results_tmp2 rfl _ _ _, ⟨_, rfl, hr'⟩, hB.trans (belowK_b (w := w) (Nat.le_refl _) W D _ _ (by simp at hD; omega) hK rfl rfl)⟩
  case stop =>
    rintro D c pre W _ _ h _
    exact h.elim
end Go.Proofs.YtgkomejckbccdaaDoor
