import Derived.Test.YtegfbmekpmdcaaaDoorWrite
import Derived.Lib.IndexBytes
namespace Go.Proofs.YtegfbmekpmdcaaaDoor
open Go.RowKit
theorem run_copy_str {P : Program} (w : World) (dT sT ty elem : TypeId) (g o dLen dCap : Nat) (s : ByteArray) (cur : Array Value) (t : TypeId) (cs : List Value)
    (hu : P.underlying dT = some (.slice elem)) (hs : (P.info? elem).map (·.size) = some 1) (hg : w.heap[g]? = some (.cells cur t (0, 0))) (hn : cs.length = min s.size dLen) (hc : (Lib.strCells s).take cs.length = cs) (hfit : o + cs.length ≤ cur.size) :
    (Builtin.copy_ #[dT, sT] ty #[.slice (some ⟨g, o, none⟩) dLen dCap, .string s]).run P w =
      .ok (goInt cs.length) (w.setRow g (cur.toList.take o ++ cs ++ cur.toList.drop (o + cs.length)).toArray) := by
  have h1 : ∀ v ∈ cs, v.oneCell' = true := by
    rw [← hc]; intro v hv
    exact Lib.strCells_oneCell s v (List.mem_of_mem_take hv)
  have hst := run_storeCells_at P g o t cs 0 cur w hg (by simpa using hfit) h1
  simp only [Nat.add_zero] at hst
  have htk : List.take cs.length (List.map (fun b : UInt8 => Value.int IntKind.u8 (b.toNat : Int)) s.data.toList) = cs := hc
  have hmin : s.size.min dLen = cs.length := hn.symm
  cases hq : P.info? elem with
  | none => simp [hq] at hs
  | some i =>
    simp [Builtin.copy_, run_underlying hu, Builtin.lenOf, Builtin.firstCells, sizeOf, typeInfo, hq, hmin]
    rw [htk, hst]
    simp [Result.andThen]
theorem wpList_copy_str {P : Program} {w : World} {ops : Array Oper} {rest : List Oper} {o : Oper} {a : Act} {Q : Exit → Act → World → Prop} (hgd : o.guard = none) (d s : Operand) (dT sT : TypeId)
    (ho : o.op = .call { callee := .builtin .copy, args := #[d, s], argTypes := #[dT, sT] }) (elem : TypeId) (hu : P.underlying dT = some (.slice elem)) (hsz : (P.info? elem).map (·.size) = some 1)
    (g off dLen dCap : Nat) (x : ByteArray) (hd : a.eval d = .slice (some ⟨g, off, none⟩) dLen dCap) (hs : a.eval s = .string x)
    (cur : Array Value) (t : TypeId) (hg : w.heap[g]? = some (.cells cur t (0, 0))) (cs : List Value) (hn : cs.length = min x.size dLen) (hc : (Lib.strCells x).take cs.length = cs)
    (hfit : off + cs.length ≤ cur.size)
    (h : wpList P ops Q rest (a.put o.dst (goInt cs.length)) (w.setRow g (cur.toList.take off ++ (cs ++ cur.toList.drop (off + cs.length))).toArray)) : wpList P ops Q (o :: rest) a w := by
  refine wpList_plain hgd fun K hK => ?_
  have hrun := run_copy_str (P := P) w dT sT o.type elem g off dLen dCap x cur t cs hu hsz hg hn hc hfit
  rw [List.append_assoc] at hrun
  unfold Oper.wp
  simp only [execOp, ho, resolve, invoke, builtin, Sem.run_bind, Sem.run_pure, Result.andThen_ok, List.map_toArray, List.map_cons, List.map_nil, hd, hs, hrun]
  exact hK _ _ h
theorem sliceStr (s : ByteArray) (xs : List Nat) (k : Nat) (hxs : Hid (ofStr s = xs)) (h : k < xs.length) :
    ∃ tl, Hid (∀ W, (Instr.slice 9 (.string s) (some (.int .i64 (k : Int))) none none).run Tryd.prog W = .ok (.string tl) W) ∧ Hid (ofStr tl = xs.drop k) ∧ tl.size = xs.length - k := by
  have hsz : s.size = xs.length := by rw [← hxs.out, ofStr_len]
  have hd : ofStr (s.extract k s.size) = xs.drop k := by
    rw [← hxs.out]
    unfold ofStr
    rw [Lib.extract_to_end, List.map_drop]
  refine ⟨s.extract k s.size, fun W => ?_, hd, ?_⟩
  · rw [run_slice_string_l W 9 s (by kernel_rfl) .i64 (k : Int) (by omega) (by omega)]
    simp
  · rw [← ofStr_len, hd, List.length_drop]
set_option maxRecDepth 100000 in
set_option maxHeartbeats 2000000 in
theorem writes_any (g : Nat) (ys : List Nat) (s : ByteArray) (xs : List Nat) (hxs : Hid (ofStr s = xs)) (hbig : ys.length + xs.length ≤ 140737488355328) (w : World) (hL : Laid w) (hS : SR w g ys) :
    Calls Tryd.prog 81 #[.pointer (some ⟨g, 0, none⟩), .string s] w fun e w' => e = .returned (.tuple #[]) ∧ SR w' g (ys ++ xs) ∧ w.grownBy w' (some g) := by
  have hx : ∀ x ∈ xs, x < 256 := by rw [← hxs.out]; exact ofStr_lt s
  have hsz : s.size = xs.length := by rw [← hxs.out, ofStr_len]
  have hsz2 := hidIt hsz
  have z1 : s.size ≤ xs.length := by omega
  have z2 : xs.length ≤ s.size := by omega
  clear hsz
  go_enter Tryd.func81, Tryd.ntmps81
  go_wp2
  go_loopw [4, 5] (fun d _ wr => ∃ k : Nat, k ≤ xs.length ∧ d = .int .i64 k ∧ SR wr g (ys ++ xs.take k) ∧ w.grownBy wr (some g)) (fun d _ _ => xs.length - (intOf d).toNat)
  case atStart => exact ⟨0, by omega, rfl, by simpa using hS, g_refl _ _⟩
  case round =>
    obtain ⟨k, hk, rfl, hS, hg⟩ := hrel
    by_cases hlt : k < xs.length
    · obtain ⟨bf, hH, hB⟩ := hS.ex
      have hlen : (ys ++ xs.take k).length = ys.length + k := by rw [List.length_append, List.length_take]; omega
      have hHH := hidIt hH
      obtain ⟨hb64, hb256, hb3⟩ := hH
      obtain ⟨ps, hps⟩ : ∃ ps, Hid (ys ++ xs.take k = ps) := ⟨_, rfl⟩
      rw [hps.out] at hB hlen hb3 hHH
      obtain ⟨L, hL1⟩ : ∃ L, Hid (ps.length = L) := ⟨_, rfl⟩
      rw [hL1.out] at hB hlen
      obtain ⟨r, hr1⟩ : ∃ r, Hid (ps.length % 64 = r) := ⟨_, rfl⟩
      have hr2 : Hid (L % 64 = r) := by show _ = _; rw [← hL1.out]; exact hr1.out
      have c72 := hB.cell 72
      rw [List.getElem?_toArray, stC_length _ _ _ hb64] at c72
      have f72 := hB.frozen 72
      have hLl := hidIt hlen
      have hr : r < 64 := by have := hr2.out; omega
      have t1 : (L : Int).tmod 64 = (r : Int) := by rw [Int.tmod_eq_emod_of_nonneg (by omega)]; have := hr2.out; omega
      have t2 : (0 : Int) ≤ (r : Int) := by omega
      have t3 : (r : Int) < 64 := by omega
      have t4 : IntKind.i64.wrap (r : Int) = (r : Int) := IntWalk.i64_in _ (by omega)
      have t5 : (k : Int) < (s.size : Int) := by omega
      obtain ⟨tl, ht1, ht2, ht3⟩ := sliceStr s xs k hxs hlt
      have ht4 := hidIt ht3
      have s1 := fun W => sliceBuf g r hr W
      have s2 := fun W => ht1.out W
      clear ht3
      clear hlen hb3 hS hb256
      go_wp2
      go_still_tail 12, (by kernel_rfl)
      obtain ⟨ds, hds⟩ : ∃ ds, Hid ((xs.drop k).take (64 - r) = ds) := ⟨_, rfl⟩
      obtain ⟨n, hn⟩ : ∃ n, Hid (ds.length = n) := ⟨_, rfl⟩
      have hnm : Hid (n = min (xs.length - k) (64 - r)) := by show _ = _; rw [← hn.out, ← hds.out, List.length_take, List.length_drop]; omega
      have n1 : r + n ≤ 64 := by have := hnm.out; omega
      have n2 : k + n ≤ xs.length := by have := hnm.out; omega
      have n3 : 0 < n := by have := hnm.out; omega
      change wpList _ _ _ _ _ wr.drew
      refine wpList_copy_str rfl _ _ _ _ rfl 5 Tryd.underlying66 size5 g (8 + r) (64 - r) (64 - r) tl rfl rfl (stC (Sh.hs ps (L / 64)) bf L).toArray 94 hB (vals ds) ?c1 ?c2 ?c3 ?_
      case c1 => rw [vals_len, hn.out]; have := hnm.out; have := ht4.out; show _ = min _ _; omega
      case c2 =>
        rw [strCells_vals, ht2.out, vals_len, hn.out, ← hds.out]
        have e1 : (xs.drop k).take n = (xs.drop k).take (64 - r) := by
          have : n ≤ 64 - r := by omega
          rw [← Nat.min_eq_left this, ← List.take_take, List.take_of_length_le]
          rw [hds.out, hn.out]; exact Nat.le_refl _
        rw [← e1]; simp [vals, List.map_take]
      case c3 => rw [vals_len, hn.out, List.size_toArray, stC_len _ _ _ hb64]; omega
      obtain ⟨wn, hwn, hBn, hgn⟩ : ∃ wn, Hid (wr.drew.setRow g ((stC (Sh.hs ps (L / 64)) bf L).toArray.toList.take (8 + r) ++ (vals ds ++ (stC (Sh.hs ps (L / 64)) bf L).toArray.toList.drop (8 + r + (vals ds).length))).toArray = wn) ∧ Blk wn g 94 (stC (Sh.hs ps (L / 64)) (Sh.into bf r ds) L).toArray ∧ w.grownBy wn (some g) := by
        refine ⟨_, rfl, ?_, ?_⟩
        · rw [vals_len, stC_into _ _ _ _ _ hb64 (by rw [hn.out]; omega)]
          exact setRow_heap _ _ _ _ _ _ hB
        · exact ⟨hg.os, hg.tape, hg.output, by simpa using hg.size, fun i hi hne => (setRow_other _ _ i _ (fun e => hne (by rw [e]))).trans (hg.block i hi hne)⟩
      rw [hwn.out, vals_len, hn.out]
      have k72 := hBn.cell 72
      have hi64 : (Sh.into bf r ds).length = 64 := by rw [Sh.into_len (by rw [hn.out]; omega)]; exact hb64
      rw [List.getElem?_toArray, stC_length _ _ _ hi64] at k72
      have g72 := hBn.frozen 72
      have hbig2 : L + n ≤ 140737488355328 := by have := hLl.out; omega
      clear t1 t2 t3 t4 s1 s2 c72 f72 hB hg
      have hcast : Hid (((L + n : Nat) : Int) = (L : Int) + (n : Int)) := by show _ = _; omega
      obtain ⟨wp, hwp, hBp, hgp⟩ : ∃ wp, Hid (wn.setCell ⟨g, 72, none⟩ (.int .i64 ((L : Int) + (n : Int))) = wp) ∧ Blk wp g 94 (stC (Sh.hs ps (L / 64)) (Sh.into bf r ds) (L + n)).toArray ∧ w.grownBy wp (some g) := by
        refine ⟨_, rfl, ?_, g_set hgn⟩
        rw [← hcast.out, ← stC_put _ _ L _ hi64]
        exact hBn.set_ 72 _
      have p72 := hBp.cell 72
      rw [List.getElem?_toArray, stC_length _ _ _ hi64] at p72
      have hnext : Hid (ys ++ xs.take (k + n) = ps ++ ds) := by
        show _ = _
        have e1 : (xs.drop k).take n = ds := by
          rw [← hds.out]
          have : n ≤ 64 - r := by omega
          rw [← Nat.min_eq_left this, ← List.take_take, List.take_of_length_le]
          rw [hds.out, hn.out]; exact Nat.le_refl _
        rw [List.take_add, e1, ← List.append_assoc, hps.out]
      have hlen2 : Hid ((ps ++ ds).length = L + n) := by show _ = _; rw [List.length_append, hL1.out, hn.out]
      by_cases hfull : r + n = 64
      · have hz : (((L : Int) + (n : Int)) % 64 == 0) = true := by have := hr2.out; simp; omega
        obtain ⟨m, hm⟩ : ∃ m : Nat → Nat, Hid (∀ i, m i = (Sh.into bf r ds).getD i 0) := ⟨fun i => (Sh.into bf r ds).getD i 0, fun _ => rfl⟩
        have hH' : Hid (Sh.Held (Sh.into bf r ds) (ps ++ ds) ∧ Sh.block (Sh.hs ps (L / 64)) m = Sh.hs (ps ++ ds) ((ps ++ ds).length / 64)) := by
          have := Sh.absorb_eq (ds := ds) hHH.out (fun x hx' => hx x (by rw [← hds.out] at hx'; exact List.mem_of_mem_drop (List.mem_of_mem_take hx'))) (by rw [hn.out, hr1.out]; exact hfull)
          rw [hr1.out, hL1.out] at this
          rw [show m = fun i => (Sh.into bf r ds).getD i 0 from funext hm.out]
          exact this
        have hbytes : Hid (∀ i, i < 64 → wp.cell? ⟨g, 8 + i, none⟩ = some (.int .u8 (m i : Nat))) := fun i hi => by
          rw [hBp.cell (8 + i), List.getElem?_toArray, stC_byte _ _ _ _ hi64 hi, hm.out i]
        have hlt8 : Hid (∀ i, m i < 256) := fun i => by
          rw [hm.out i, List.getD_eq_getElem?_getD]
          rcases Nat.lt_or_ge i (Sh.into bf r ds).length with h | h
          · rw [List.getElem?_eq_getElem h]; exact hH'.out.1.2.1 _ (List.getElem_mem _)
          · rw [List.getElem?_eq_none h]; decide
        have hLp : Laid wp := hL.below (below_g hgp hS.two hS.lt) (Nat.le_refl _)
        generalize hst : Sh.hs ps (L / 64) = S at *
        have hSt := hidIt hst
        have hSok : S.Ok := hst ▸ Sh.hs_ok _ _
        clear hst
        obtain ⟨-, d0, d1, d2, d3, d4, d5, d6, d7, -⟩ := words_of hBp
        go_wp2_with (fail)
        rw [hwp.out]
        go_wp2_with (fail)
        clear hwp hwn hBn hgn k72 g72
        go_region_law (first | (go_simp; go_at_call 84; refine (comp_any S hSok g 8 64 m (Nat.le_refl _) hlt8.out (wp.drewN 1) (hLp.drewN 1) hbytes.out).mono ?_; rintro e w2 ⟨rfl, hb2⟩; obtain ⟨hB2, e0, e1, e2, e3, e4, e5, e6, e7, -⟩ := words_of ((hBp.drewN 1).below hb2 hBp.lt); have hst := store_words (X := Sh.block S m) hB2.out; have hsz : (stA (Sh.block S m)).size = 8 := rfl))
        obtain ⟨w3, hw3, hS3, hg3⟩ : ∃ w3, Hid (w2.setRow g (stC (Sh.block S m) (Sh.into bf r ds) (L + n)).toArray = w3) ∧ SR w3 g (ys ++ xs.take (k + n)) ∧ w.grownBy w3 (some g) := by
          refine ⟨_, rfl, ⟨hS.two, Sh.into bf r ds, ?_, ?_⟩, ?_⟩
          · rw [hnext.out]; exact hH'.out.1
          · rw [hnext.out, ← hH'.out.2, hlen2.out]
            exact setRow_heap _ _ _ _ _ _ hB2.out
          · exact ⟨hb2.os.trans hgp.os, hb2.tape.trans hgp.tape, hb2.output.trans hgp.output, by have h1 := hb2.size; have h2 := hgp.size; simp at h1 ⊢; omega, fun i hi hne => (setRow_other _ _ i _ (fun e => hne (by rw [e]))).trans ((hb2.block i (Nat.lt_of_lt_of_le hi hgp.size)).trans (hgp.block i hi hne))⟩
        rw [hw3.out]
        clear hst hsz e0 e1 e2 e3 e4 e5 e6 e7 d0 d1 d2 d3 d4 d5 d6 d7 hb2 hw3 p72
        go_wp2
        go_roundw
        case rel => exact ⟨k + n, n2, by go_num, hS3, hg3⟩
        case measure => simp [intOf]; omega
      · have hz : (((L : Int) + (n : Int)) % 64 == 0) = false := by have := hr2.out; simp; omega
        have hH' : Hid (Sh.Held (Sh.into bf r ds) (ps ++ ds) ∧ Sh.hs (ps ++ ds) ((ps ++ ds).length / 64) = Sh.hs ps (L / 64)) := by
          have := Sh.absorb_lt (ds := ds) hHH.out (fun x hx' => hx x (by rw [← hds.out] at hx'; exact List.mem_of_mem_drop (List.mem_of_mem_take hx'))) (by rw [hn.out, hr1.out]; omega)
          rw [hr1.out, hL1.out] at this
          exact this
        have hS3 : SR wp g (ys ++ xs.take (k + n)) := by
          refine ⟨hS.two, Sh.into bf r ds, ?_, ?_⟩
          · rw [hnext.out]; exact hH'.out.1
          · rw [hnext.out, hH'.out.2, hlen2.out]; exact hBp
        go_wp2_with (fail)
        rw [hwp.out]
        clear hwp hwn hBn hgn k72 g72 p72 hBp
        go_wp2
        go_roundw
        case rel => exact ⟨k + n, n2, by go_num, hS3, hgp⟩
        case measure => simp [intOf]; omega
    · obtain rfl : k = xs.length := by omega
      rw [List.take_length] at hS
      have hx2 := hidIt hS
      clear hS
      go_wp2
      go_end0
      exact ⟨rfl, hx2.out, hg⟩
end Go.Proofs.YtegfbmekpmdcaaaDoor
