import Derived.Test.YtneiglhcfgnclaaDoorRl2
namespace Go.Proofs.YtneiglhcfgnclaaDoor
open Go.RowKit
theorem infoU : (Tryd.prog.info? 22).map (fun i => (i.zero, i.size, i.bytes)) = some (some (.int .u64 0), 1, 8) := by kernel_rfl
def uvals (xs : List Nat) : List Value := xs.map fun (b : Nat) => Value.int .u64 (b : Int)
theorem uvals_append (a b : List Nat) : uvals a ++ uvals b = uvals (a ++ b) := by simp [uvals]
theorem uvals_len (a : List Nat) : (uvals a).length = a.length := by simp [uvals]
/-- the slice at a reads as these numbers -/
def Us (w : World) (a : Option Addr) (xs : List Nat) : Prop := ∀ i, i < xs.length → ∃ b off, a = some ⟨b, off, none⟩ ∧ w.cell? ⟨b, off + i, none⟩ = some (.int .u64 (xs.getD i 0 : Nat))
theorem Us.below {w wr : World} {a : Option Addr} {xs : List Nat} (h : Us w a xs) (hb : Below w.heap.size w wr) : Us wr a xs := by
  intro i hi
  obtain ⟨b, off, h2, h3⟩ := h i hi
  exact ⟨b, off, h2, (hb.cell (p := ⟨b, off + i, none⟩) (bytes_lt h3)).trans h3⟩
theorem owned_us {w : World} {base n : Nat} {v : Value} {xs : List Nat} (h : w.ownsRow base 22 1 v n (uvals xs)) (hn : n = xs.length) :
    ∃ a cap, v = .slice a xs.length cap ∧ xs.length ≤ cap ∧ Us w a xs := by
  subst hn
  rcases h.2 with ⟨rfl, h0⟩ | ⟨g, cap, cur, rfl, hg0, hg, hle, hcs, hsz, ht⟩
  · exact ⟨none, 0, by rw [h0], by omega, fun i hi => by omega⟩
  · refine ⟨_, cap, rfl, hle, fun i hi => ⟨g, 0, rfl, ?_⟩⟩
    rw [cell_of_row w g (0 + i) _ _ _ hg, Nat.zero_add]
    have h1 : (uvals xs)[i]? = some (.int .u64 (xs.getD i 0 : Nat)) := by simp [uvals, List.getD, hi]
    rw [← ht, List.getElem?_take] at h1
    split at h1
    · simpa using h1
    · cases h1
theorem ownU_snoc {w : World} {base n : Nat} {v : Value} {xs : List Nat} {s : Nat} (h : w.ownsRow base 22 1 v (n + 1) (uvals xs ++ [.int .u64 (s : Int)])) : w.ownsRow base 22 1 v (n + 1) (uvals (xs ++ [s])) := by
  rw [← uvals_append]; exact h
theorem wpList_snoc_u (w : World) {ops : Array Oper} {rest : List Oper} {o : Oper} {act : Act} {Q : Exit → Act → World → Prop} (hgd : o.guard = none) (s x : Operand)
    (ho : o.op = .call { callee := .builtin .append, args := #[s, x], argTypes := #[23, 23] })
    (base : Nat) (v : Value) (n : Nat) (xs : List Nat) (hs : act.eval s = v) (hown : w.ownsRow base 22 1 v n (uvals xs))
    (q : Nat) (st : Nat) (hx : act.eval x = .slice (some ⟨q, 0, none⟩) 1 1) (hc : w.cell? ⟨q, 0, none⟩ = some (.int .u64 (st : Int))) (hbig : n ≤ 1000000000) (hbase : base ≤ w.heap.size)
    (h : ∀ v' w', w'.ownsRow base 22 1 v' (n + 1) (uvals (xs ++ [st])) → w.grownBy w' v.ownBlock → Below base w w' → wpList Tryd.prog ops Q rest (act.put o.dst v') w') : wpList Tryd.prog ops Q (o :: rest) act w := by
  obtain ⟨i0, hi, hz0, hz1, hz2⟩ := info_parts infoU
  refine wpList_append_own w hgd s x 23 ho base 22 i0 (.int .u64 0) 1 8 Tryd.underlying23 hi hz0 hz1 hz2 rfl (by decide) v n (uvals xs) hs hown ⟨q, 0, none⟩ 1 1 [.int .u64 (st : Int)] hx rfl (fun j u hu => ?_) (fun u hu => ?_) (by unfold maxLen; omega) (by omega) hbase (fun v' w' h1 h2 _ => h v' w' (ownU_snoc h1) h2 ((Below.refl base w).grown h2 hbase (fun p hp => (hown.lt p hp).1)))
  · match j, hu with
    | 0, hu => simp at hu; subst hu; exact hc
  · simp at hu; subst hu; rfl
theorem makeCapU (n : Nat) (hn : n ≤ 1000000000) (w : World) : (Instr.makeSlice 23 (.int .i64 0) (.int .i64 (n : Int))).run Tryd.prog w = .ok (.slice (some ⟨w.heap.size, 0, none⟩) 0 n) (w.alloc (.cells (rowA .u64 (fun _ => 0) n 0) 22)) := by
  obtain ⟨i, hi, hz0, hz1, hz2⟩ := info_parts infoU
  have h := run_make (P := Tryd.prog) w 23 22 i (.int .u64 0) Tryd.underlying23 hi hz0 .i64 .i64 0 n (by omega) (by omega) (by rw [hz2]; omega) (by omega)
  rw [hz1] at h
  simp only [Int.toNat_natCast] at h
  have e : madeCells (Value.int .u64 0).cells (n * 1) = rowA .u64 (fun _ => 0) n 0 := by
    apply Array.ext_getElem?
    intro j
    by_cases h : j < n
    · rw [rowA_get _ _ _ _ _ h]; simp [madeCells, Value.cells, h, Nat.mod_one]
    · have e1 : (rowA .u64 (fun _ => 0) n 0)[j]? = none := by simp [rowA_size]; omega
      rw [e1]; simp [madeCells]; omega
  rwa [e] at h
theorem madeOwnU (w : World) (n base : Nat) (hn : n ≤ 1000000000) (hb : base ≤ w.heap.size) : (w.alloc (.cells (rowA .u64 (fun _ => 0) n 0) 22)).ownsRow base 22 1 (.slice (some ⟨w.heap.size, 0, none⟩) 0 n) 0 (uvals []) := by
  refine ⟨by simp [uvals], .inr ⟨w.heap.size, n, _, rfl, hb, heap_alloc_new _ _, by omega, by unfold maxLen; omega, by rw [rowA_size]; omega, by simp [uvals]⟩⟩
theorem own_belowU {w w' : World} {base n : Nat} {v : Value} {xs : List Value} (h : w.ownsRow base 22 1 v n xs) (hb : ∀ b, v.ownBlock = some b → w'.heap[b]? = w.heap[b]?) : w'.ownsRow base 22 1 v n xs := by
  refine ⟨h.1, ?_⟩
  rcases h.2 with h1 | ⟨b, cap, cur, hv, hb0, hgg, hr⟩
  · exact Or.inl h1
  · exact Or.inr ⟨b, cap, cur, hv, hb0, (hb b (by rw [hv]; rfl)).trans hgg, hr⟩
/-- the hash of the window that begins at j -/
def wh (T : Nat → Nat) (win : Nat) (bs : List Nat) (j : Nat) : Nat := Rh.hsh T ((bs.drop j).take win)
/-- the hashes of the full windows -/
def whs (T : Nat → Nat) (win : Nat) (bs : List Nat) (k : Nat) : List Nat := (List.range (k + 1 - win)).map (wh T win bs)
theorem whs_len (T : Nat → Nat) (win : Nat) (bs : List Nat) (k : Nat) : (whs T win bs k).length = k + 1 - win := by simp [whs]
theorem whs_no {T : Nat → Nat} {win : Nat} {bs : List Nat} {k : Nat} (h : k + 1 < win) : whs T win bs (k + 1) = whs T win bs k := by
  unfold whs; rw [show k + 1 + 1 - win = 0 by omega, show k + 1 - win = 0 by omega]
theorem whs_yes {T : Nat → Nat} {win : Nat} {bs : List Nat} {k : Nat} (h : win ≤ k + 1) : whs T win bs (k + 1) = whs T win bs k ++ [wh T win bs (k + 1 - win)] := by
  unfold whs; rw [show k + 1 + 1 - win = (k + 1 - win) + 1 by omega, List.range_succ, List.map_append]; rfl
theorem wh_last {T : Nat → Nat} {win : Nat} {bs : List Nat} {k : Nat} (h : win ≤ k + 1) (hk : k + 1 ≤ bs.length) : Rh.hsh T (Rh.last win (bs.take (k + 1))) = wh T win bs (k + 1 - win) := by
  unfold wh Rh.last
  rw [List.length_take, Nat.min_eq_left hk, List.drop_take, show k + 1 - (k + 1 - win) = win by omega]
theorem whs_get {T : Nat → Nat} {win : Nat} {bs : List Nat} {k i : Nat} (h : i < k + 1 - win) : (whs T win bs k).getD i 0 = wh T win bs i := by
  unfold whs
  rw [List.getD_eq_getElem?_getD, List.getElem?_map, List.getElem?_range h]; rfl
theorem allbad_any (s : Nat) (n : Int) (hn : n < 1 ∨ 64 < n) (a : Option Addr) (len cap : Nat) (w : World) :
    Calls Tryd.prog 23 #[.int .u64 s, .int .i64 n, .slice a len cap] w fun e w' => e = .returned (.tuple #[.slice none 0 0, .int .i64 1]) ∧ w = w' := by
  by_cases h1 : n < 1
  · go_enter Tryd.func23, Tryd.ntmps23
    go_wp2_with (fail)
    go_ret2
    exact ⟨rfl, rfl⟩
  · have h2 : n > 64 := by omega
    clear hn
    go_enter Tryd.func23, Tryd.ntmps23
    go_wp2_with (fail)
    go_ret2
    exact ⟨rfl, rfl⟩
/-- the row of sums is not the rolling hash's block -/
theorem own_ne {w : World} {g : Nat} {T : Nat → Nat} {win : Nat} {ys : List Nat} (h : RS w g T win ys) {base n : Nat} {V : Value} {xs : List Value} (ho : w.ownsRow base 22 1 V n xs) : some g ≠ V.ownBlock := by
  intro e
  obtain ⟨R, _, _, hB⟩ := h.ex
  rcases ho.2 with ⟨rfl, _⟩ | ⟨b, cap, cur, hv, _, hg, _⟩
  · cases e
  · rw [hv] at e
    cases e
    unfold Blk at hB
    rw [hB] at hg
    cases hg
theorem own_keep {w w' : World} {g : Nat} {T : Nat → Nat} {win : Nat} {ys : List Nat} (h : RS w g T win ys) {base n : Nat} {V : Value} {xs : List Value} (ho : w.ownsRow base 22 1 V n xs) (hg : w.grownBy w' (some g)) : w'.ownsRow base 22 1 V n xs := by
  have hne := own_ne h ho
  refine own_belowU ho (fun b hb => hg.block b ?_ (fun e => hne (by rw [hb]; exact e.symm)))
  rcases ho.2 with ⟨rfl, _⟩ | ⟨b2, cap, cur, hv, _, hgg, _⟩
  · cases hb
  · rw [hv] at hb
    cases hb
    rcases Nat.lt_or_ge b2 w.heap.size with hlt | hge
    · exact hlt
    · rw [Array.getElem?_eq_none hge] at hgg; cases hgg
/-- what All returns -/
def AllR (w : World) (e : Ending) (xs : List Nat) : Prop := ∃ a cap, e = .returned (.tuple #[.slice a xs.length cap, .int .i64 0]) ∧ xs.length ≤ cap ∧ Us w a xs
set_option maxRecDepth 100000 in
set_option maxHeartbeats 4000000 in
theorem all_any (s win : Nat) (h1 : 1 ≤ win) (h2 : win ≤ 64) (a : Option Addr) (cap : Nat) (bs : List Nat) (hn : bs.length ≤ 1000) (hcap : bs.length ≤ cap) (hlt : ∀ x ∈ bs, x < 256) (w : World) (h : Bytes w a bs) :
    Calls Tryd.prog 23 #[.int .u64 s, .int .i64 win, .slice a bs.length cap] w fun e w' => AllR w' e (whs (Rh.num s) win bs bs.length) ∧ Below w.heap.size w w' := by
  have t1 : ¬ (win : Int) < 1 := by omega
  have t2 : ¬ (win : Int) > 64 := by omega
  have BB := hidIt h
  have hlh := hidIt hlt
  have hwn : wnd (win : Int) = win := by unfold wnd; rw [if_neg (by omega), if_neg (by omega)]; omega
  clear h hlt
  by_cases hpos : (0 : Int) < (bs.length : Int) - (win : Int) + 1
  · obtain ⟨m, hm, hm0⟩ : ∃ m : Nat, (bs.length : Int) - (win : Int) + 1 = (m : Int) ∧ m ≤ 1000 := ⟨bs.length + 1 - win, by omega, by omega⟩
    have mc := fun W => makeCapU m (by omega) W
    have mo := hidIt (fun W => madeOwnU W m w.heap.size (by omega))
    rw [hm] at hpos
    go_enter Tryd.func23, Tryd.ntmps23
    go_wp2_with (fail)
    refine (new_any s win _).mono ?_
    rintro e w1 ⟨g, rfl, hg, hS, hb1⟩
    rw [hwn] at hS
    have S1 : Hid (RS w1 g (Rh.num s) win (bs.take 0)) := by rw [List.take_zero]; exact hS
    have O1 : Hid (w1.ownsRow w.heap.size 22 1 (.slice (some ⟨w.heap.size, 0, none⟩) 0 m) (0 + 1 - win) (uvals (whs (Rh.num s) win bs 0))) := by
      have e : whs (Rh.num s) win bs 0 = [] := by unfold whs; rw [show 0 + 1 - win = 0 by omega]; rfl
      rw [e, show 0 + 1 - win = 0 by omega]
      exact own_belowU (mo.out w (Nat.le_refl _)) (fun b hb => by cases hb; exact hb1.block _ (by simp))
    have H1 : Hid (Below w.heap.size w w1) := below_then ((Below.refl _ _).alloc (Nat.le_refl _) _) hb1
    have gw : Hid (w.heap.size ≤ g) := by show _ ≤ _; have := hg; simp at this; omega
    clear hS hg hb1 mc mo
    go_wp2_with (fail)
    go_loopw [8, 11, 30] (fun V _ i wr => ∃ k : Nat, k ≤ bs.length ∧ i = .int .i64 k ∧ Hid (RS wr g (Rh.num s) win (bs.take k)) ∧ Hid (wr.ownsRow w.heap.size 22 1 V (k + 1 - win) (uvals (whs (Rh.num s) win bs k))) ∧ Hid (Below w.heap.size w wr)) (fun _ _ i _ => bs.length - (intOf i).toNat)
    case atStart => exact ⟨0, by omega, rfl, S1, O1, H1⟩
    case round =>
      obtain ⟨k, hk, rfl, R, O, hb⟩ := hrel
      clear S1 O1 H1
      by_cases hlt2 : k < bs.length
      · obtain ⟨b, off, rfl, hc2⟩ := BB.out k hlt2
        have cb := (hb.out.cell (p := ⟨b, off + k, none⟩) (bytes_lt hc2)).trans hc2
        have lb := mem_getD hlh.out (k := k)
        have hts := hidIt (take_snoc bs k hlt2)
        have lk : (bs.take k).length ≤ 1000000 := by rw [List.length_take]; omega
        have hl1 : Hid ((bs.take (k + 1)).length = k + 1) := by show _ = _; rw [List.length_take]; omega
        generalize bs.getD k 0 = x at cb lb hts
        have t5 : k < cap := by omega
        clear hc2
        go_wp2_with (fail)
        refine (push_any g (Rh.num s) win (bs.take k) x lb lk _ R).mono ?_
        rintro e w2 ⟨rfl, hS2, hg2⟩
        have R2 : Hid (RS w2 g (Rh.num s) win (bs.take (k + 1))) := by rw [hts.out]; exact hS2
        have hb2 : Hid (Below w.heap.size w w2) := hb.out.trans (below_g hg2 gw.out R.out.lt)
        have O2 : Hid (w2.ownsRow w.heap.size 22 1 u8 (k + 1 - win) (uvals (whs (Rh.num s) win bs k))) := own_keep R.out O.out hg2
        clear hS2 hg2 cb R O hb
        go_wp2_with (fail)
        refine (len_any g (Rh.num s) win _ _ R2).mono ?_
        rintro e w3 ⟨rfl, rfl⟩
        rw [hl1.out]
        by_cases hf : win ≤ k + 1
        · rw [Nat.min_eq_right hf]
          go_wp2_with (fail)
          refine (sum_any g (Rh.num s) win _ _ R2).mono ?_
          rintro e w3 ⟨rfl, rfl⟩
          rw [wh_last hf (by omega)]
          have hy := hidIt (whs_yes (T := Rh.num s) (bs := bs) hf)
          generalize wh (Rh.num s) win bs (k + 1 - win) = y at hy ⊢
          obtain ⟨q, hq, hq2⟩ : ∃ q, Hid (k + 1 - win = q) ∧ Hid (k + 1 + 1 - win = q + 1) := ⟨_, rfl, by show _ = _; omega⟩
          have hq3 : q ≤ 1000 := by have := hq.out; omega
          rw [hq.out] at O2
          have hbs := hidIt hb2.out.size
          go_wp2_with (first | (refine wpList_snoc_u _ rfl _ _ rfl w.heap.size u8 q (whs (Rh.num s) win bs k) rfl (O2.out.alloc _) w2.heap.size y rfl (by rw [cell_of_row _ _ _ _ _ _ (heap_alloc_new w2 _)]; rfl) (by omega) (by have := hbs.out; simp; omega) ?_))
          intro v' w4 hO4 hg4 hbw4
          have hb4 : Hid (Below w.heap.size w w4) := (hb2.out.alloc hbs.out _).trans hbw4
          have R4 : Hid (RS w4 g (Rh.num s) win (bs.take (k + 1))) := (R2.out.below ((Below.refl w2.heap.size w2).alloc (Nat.le_refl _) _) R2.out.lt).grown hg4 (own_ne R2.out O2.out)
          have O4 : Hid (w4.ownsRow w.heap.size 22 1 v' (k + 1 + 1 - win) (uvals (whs (Rh.num s) win bs (k + 1)))) := by rw [hq2.out, hy.out]; exact hO4
          clear hO4 hg4 hbw4 R2 O2 hb2 hbs hq hq2 hy
          go_wp2_with (fail)
          go_roundw
          case rel => exact ⟨k + 1, by omega, by go_num, R4, O4, hb4⟩
          case measure => simp [intOf]; omega
        · have hnf : Hid (whs (Rh.num s) win bs (k + 1) = whs (Rh.num s) win bs k) := whs_no (by omega)
          have O3 : Hid (w2.ownsRow w.heap.size 22 1 u8 (k + 1 + 1 - win) (uvals (whs (Rh.num s) win bs (k + 1)))) := by rw [hnf.out, show k + 1 + 1 - win = k + 1 - win by omega]; exact O2.out
          rw [Nat.min_eq_left (by omega)]
          have hne : ¬ (((k + 1 : Nat) : Int) = (win : Int)) := by omega
          obtain ⟨kk, hkk, hkk2⟩ : ∃ kk : Nat, k + 1 = kk ∧ ¬ ((kk : Int) = (win : Int)) := ⟨_, rfl, hne⟩
          rw [hkk]
          clear O2 hne
          go_wp2_with (fail)
          go_roundw
          case rel => exact ⟨k + 1, by omega, by go_num, R2, O3, hb2⟩
          case measure => simp [intOf]; omega
      · obtain rfl : k = bs.length := by omega
        obtain ⟨a3, c3, rfl, hc3, hU⟩ := owned_us O.out (by rw [whs_len])
        have hlen : Hid ((whs (Rh.num s) win bs bs.length).length = bs.length + 1 - win) := whs_len _ _ _ _
        obtain ⟨L, hL1⟩ : ∃ L, Hid ((whs (Rh.num s) win bs bs.length).length = L) := ⟨_, rfl⟩
        have hU2 := hidIt hU
        have hc4 := hidIt hc3
        rw [hL1.out]
        clear O hU hc3 R
        go_wp2_with (fail)
        go_ret2
        exact ⟨⟨a3, c3, by rw [hL1.out]; rfl, hc4.out, hU2.out⟩, hb.out⟩
  · have hneg : (bs.length : Int) - (win : Int) + 1 ≤ 0 := by omega
    have mc : ∀ W : World, (Instr.makeSlice 23 (.int .i64 0) (.int .i64 0)).run Tryd.prog W = .ok (.slice (some ⟨W.heap.size, 0, none⟩) 0 0) (W.alloc (.cells (rowA .u64 (fun _ => 0) 0 0) 22)) := fun W => makeCapU 0 (by omega) W
    have mo := hidIt (fun W => madeOwnU W 0 w.heap.size (by omega))
    go_enter Tryd.func23, Tryd.ntmps23
    go_wp2_with (fail)
    refine (new_any s win _).mono ?_
    rintro e w1 ⟨g, rfl, hg, hS, hb1⟩
    rw [hwn] at hS
    have S1 : Hid (RS w1 g (Rh.num s) win (bs.take 0)) := by rw [List.take_zero]; exact hS
    have O1 : Hid (w1.ownsRow w.heap.size 22 1 (.slice (some ⟨w.heap.size, 0, none⟩) 0 0) (0 + 1 - win) (uvals (whs (Rh.num s) win bs 0))) := by
      have e : whs (Rh.num s) win bs 0 = [] := by unfold whs; rw [show 0 + 1 - win = 0 by omega]; rfl
      rw [e, show 0 + 1 - win = 0 by omega]
      exact own_belowU (mo.out w (Nat.le_refl _)) (fun b hb => by cases hb; exact hb1.block _ (by simp))
    have H1 : Hid (Below w.heap.size w w1) := below_then ((Below.refl _ _).alloc (Nat.le_refl _) _) hb1
    have gw : Hid (w.heap.size ≤ g) := by show _ ≤ _; have := hg; simp at this; omega
    clear hS hg hb1 mc mo
    go_wp2_with (fail)
    go_loopw [8, 11, 30] (fun V _ i wr => ∃ k : Nat, k ≤ bs.length ∧ i = .int .i64 k ∧ Hid (RS wr g (Rh.num s) win (bs.take k)) ∧ Hid (wr.ownsRow w.heap.size 22 1 V (k + 1 - win) (uvals (whs (Rh.num s) win bs k))) ∧ Hid (Below w.heap.size w wr)) (fun _ _ i _ => bs.length - (intOf i).toNat)
    case atStart => exact ⟨0, by omega, rfl, S1, O1, H1⟩
    case round =>
      obtain ⟨k, hk, rfl, R, O, hb⟩ := hrel
      clear S1 O1 H1
      by_cases hlt2 : k < bs.length
      · obtain ⟨b, off, rfl, hc2⟩ := BB.out k hlt2
        have cb := (hb.out.cell (p := ⟨b, off + k, none⟩) (bytes_lt hc2)).trans hc2
        have lb := mem_getD hlh.out (k := k)
        have hts := hidIt (take_snoc bs k hlt2)
        have lk : (bs.take k).length ≤ 1000000 := by rw [List.length_take]; omega
        have hl1 : Hid ((bs.take (k + 1)).length = k + 1) := by show _ = _; rw [List.length_take]; omega
        generalize bs.getD k 0 = x at cb lb hts
        have t5 : k < cap := by omega
        clear hc2
        go_wp2_with (fail)
        refine (push_any g (Rh.num s) win (bs.take k) x lb lk _ R).mono ?_
        rintro e w2 ⟨rfl, hS2, hg2⟩
        have R2 : Hid (RS w2 g (Rh.num s) win (bs.take (k + 1))) := by rw [hts.out]; exact hS2
        have hb2 : Hid (Below w.heap.size w w2) := hb.out.trans (below_g hg2 gw.out R.out.lt)
        have O2 : Hid (w2.ownsRow w.heap.size 22 1 u8 (k + 1 - win) (uvals (whs (Rh.num s) win bs k))) := own_keep R.out O.out hg2
        clear hS2 hg2 cb R O hb
        go_wp2_with (fail)
        refine (len_any g (Rh.num s) win _ _ R2).mono ?_
        rintro e w3 ⟨rfl, rfl⟩
        rw [hl1.out]
        by_cases hf : win ≤ k + 1
        · exfalso; omega
        · have hnf : Hid (whs (Rh.num s) win bs (k + 1) = whs (Rh.num s) win bs k) := whs_no (by omega)
          have O3 : Hid (w2.ownsRow w.heap.size 22 1 u8 (k + 1 + 1 - win) (uvals (whs (Rh.num s) win bs (k + 1)))) := by rw [hnf.out, show k + 1 + 1 - win = k + 1 - win by omega]; exact O2.out
          rw [Nat.min_eq_left (by omega)]
          have hne : ¬ (((k + 1 : Nat) : Int) = (win : Int)) := by omega
          obtain ⟨kk, hkk, hkk2⟩ : ∃ kk : Nat, k + 1 = kk ∧ ¬ ((kk : Int) = (win : Int)) := ⟨_, rfl, hne⟩
          rw [hkk]
          clear O2 hne
          go_wp2_with (fail)
          go_roundw
          case rel => exact ⟨k + 1, by omega, by go_num, R2, O3, hb2⟩
          case measure => simp [intOf]; omega
      · obtain rfl : k = bs.length := by omega
        obtain ⟨a3, c3, rfl, hc3, hU⟩ := owned_us O.out (by rw [whs_len])
        have hlen : Hid ((whs (Rh.num s) win bs bs.length).length = bs.length + 1 - win) := whs_len _ _ _ _
        obtain ⟨L, hL1⟩ : ∃ L, Hid ((whs (Rh.num s) win bs bs.length).length = L) := ⟨_, rfl⟩
        have hU2 := hidIt hU
        have hc4 := hidIt hc3
        rw [hL1.out]
        clear O hU hc3 R
        go_wp2_with (fail)
        go_ret2
        exact ⟨⟨a3, c3, by rw [hL1.out]; rfl, hc4.out, hU2.out⟩, hb.out⟩
end Go.Proofs.YtneiglhcfgnclaaDoor
