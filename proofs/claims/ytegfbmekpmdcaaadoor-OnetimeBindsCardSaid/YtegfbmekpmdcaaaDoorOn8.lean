import Derived.Test.YtegfbmekpmdcaaaDoorOn7
import Derived.Test.YtegfbmekpmdcaaaDoorOn5
namespace Go.Proofs.YtegfbmekpmdcaaaDoor
open Go.RowKit
theorem infoS : (Tryd.prog.info? 9).map (fun i => (i.zero, i.size, i.bytes)) = some (some (.string ⟨#[]⟩), 1, 16) := by kernel_rfl
/-- a row of n strings, of which k have been written -/
def rowS (P : Nat → ByteArray) (n k : Nat) : Array Value := ((List.range n).map fun i => Value.string (if i < k then P i else ⟨#[]⟩)).toArray
theorem rowS_size (P : Nat → ByteArray) (n k : Nat) : (rowS P n k).size = n := by simp [rowS]
theorem rowS_get (P : Nat → ByteArray) (n k i : Nat) (h : i < n) : (rowS P n k)[i]? = some (.string (if i < k then P i else ⟨#[]⟩)) := by simp [rowS, h]
theorem rowS_set (P : Nat → ByteArray) (n k : Nat) : (rowS P n k).setIfInBounds k (.string (P k)) = rowS P n (k + 1) := by
  apply Array.ext_getElem?
  intro i
  by_cases hi : i < n
  · rw [rowS_get _ _ _ _ hi]
    by_cases h : i = k
    · subst h
      rw [Array.getElem?_setIfInBounds_self_of_lt (by rw [rowS_size]; exact hi), if_pos (by omega)]
    · rw [Array.getElem?_setIfInBounds_ne (by omega), rowS_get _ _ _ _ hi]
      by_cases h2 : i < k
      · rw [if_pos h2, if_pos (by omega)]
      · rw [if_neg h2, if_neg (by omega)]
  · rw [Array.getElem?_eq_none (by rw [Array.size_setIfInBounds, rowS_size]; omega), Array.getElem?_eq_none (by rw [rowS_size]; omega)]
set_option maxRecDepth 100000 in
theorem makeLenS (n : Nat) (hn : n ≤ 1000000000) (P : Nat → ByteArray) (w : World) : (Instr.makeSlice 47 (.int .i64 (n : Int)) (.int .i64 (n : Int))).run Tryd.prog w = .ok (.slice (some ⟨w.heap.size, 0, none⟩) n n) (w.alloc (.cells (rowS P n 0) 9)) := by
  obtain ⟨i, hi, hz0, hz1, hz2⟩ := info_parts infoS
  have h := run_make (P := Tryd.prog) w 47 9 i (.string ⟨#[]⟩) Tryd.underlying47 hi hz0 .i64 .i64 n n (by omega) (by omega) (by rw [hz2]; omega) (by omega)
  rw [hz1] at h
  simp only [Int.toNat_natCast] at h
  have e : madeCells (Value.string ⟨#[]⟩).cells (n * 1) = rowS P n 0 := by
    apply Array.ext_getElem?
    intro j
    by_cases h : j < n
    · rw [rowS_get _ _ _ _ h]; simp [madeCells, Value.cells, h, Nat.mod_one]
    · have e1 : (rowS P n 0)[j]? = none := by simp [rowS_size]; omega
      rw [e1]; simp [madeCells]; omega
  rwa [e] at h
theorem rowS_strs {w : World} {g n : Nat} {P : Nat → ByteArray} (h : Blk w g 9 (rowS P n n)) : Strs w (some ⟨g, 0, none⟩) ((List.range n).map P) := by
  intro i hi
  have h2 : i < n := by simpa using hi
  refine ⟨g, 0, rfl, ?_⟩
  rw [Nat.zero_add, h.cell, rowS_get _ _ _ _ h2, if_pos h2]
  simp [List.getD, h2]
/-- what Sign returns -/
def SigOk (w : World) (e : Ending) (w' : World) (P : Nat → ByteArray) (n : Nat) : Prop := ∃ g, w.heap.size ≤ g ∧ e = .returned (.tuple #[.slice (some ⟨g, 0, none⟩) n n, .int .i64 0]) ∧ Strs w' (some ⟨g, 0, none⟩) ((List.range n).map P)
set_option maxRecDepth 100000 in
set_option maxHeartbeats 1000000 in
theorem sign_ok (b s : Nat) (ho : Ot.okB b s = true) (sd : ByteArray) (ks : List Nat) (hks : Hid (ofStr sd = ks)) (h32 : (sd.size : Int) = 32) (dig : ByteArray) (xs : List Nat) (hx : Hid (ofStr dig = xs)) (hsz : (dig.size : Int) = (s : Int)) (w : World) (hL : LaidH w) :
    Calls Tryd.prog 29 #[.agg #[.int .i64 (b : Int), .int .i64 (s : Int)], .string sd, .string dig] w fun e w' => SigOk w e w' (fun i => Ot.vl ks i (Ot.dgs b s xs i)) (Ot.tot b s) ∧ Below w.heap.size w w' := by
  have p0 : PS w w.heap.size (b : Int) (s : Int) (w.alloc (.cells #[.int .i64 (b : Int), .int .i64 (s : Int)] 25)) := ps_new _ _ _ _
  have hn2 := (Ot.tot_bd b s ho).2
  have hFl : Hid (∀ i, Ot.dgs b s xs i ≤ 255) := fun i => Nat.le_trans (Ot.dgs_le b s xs i) (Ot.las_bd b s ho).2.1
  have dx : Hid (∀ W, Calls Tryd.prog 14 #[.agg #[.int .i64 (b : Int), .int .i64 (s : Int)], .string dig] W fun e w' => DigOk W e w' (Ot.dgs b s xs) (Ot.tot b s) ∧ Below W.heap.size W w') := fun W => digits_ok b s ho dig xs hx hsz W
  obtain ⟨n, hn⟩ : ∃ n, Hid (Ot.tot b s = n) := ⟨_, rfl⟩
  obtain ⟨F, hF⟩ : ∃ F, Hid (Ot.dgs b s xs = F) := ⟨_, rfl⟩
  obtain ⟨P, hP⟩ : ∃ P : Nat → ByteArray, Hid ((fun i => Ot.vl ks i (F i)) = P) := ⟨_, rfl⟩
  have hPi : Hid (∀ i, Ot.vl ks i (F i) = P i) := fun i => by rw [← hP.out]
  rw [hn.out, hF.out] at dx
  rw [hF.out] at hFl
  rw [hn.out] at hn2
  rw [hF.out, hn.out, hP.out]
  have mk := makeLenS n (by omega) P
  clear ho hx hsz hn hF hP
  go_enter Tryd.func29, Tryd.ntmps29
  go_wp2_with (fail)
  refine (dx.out _).mono ?_
  rintro e w2 ⟨⟨gd, hgd, rfl, hB⟩, hb2⟩
  have H2 := hidIt (p0.next hb2).bel
  clear hb2 p0 dx hgd
  go_wp2_with (fail)
  obtain ⟨w3, hw3⟩ : ∃ w3, Hid (w2.alloc (.cells (rowS P n 0) 9) = w3) := ⟨_, rfl⟩
  obtain ⟨g, hg⟩ : ∃ g, Hid (w2.heap.size = g) := ⟨_, rfl⟩
  have hbA : Below w2.heap.size w2 w3 := by rw [← hw3.out]; exact (Below.refl _ _).alloc (Nat.le_refl _) _
  have B3 : Blk w3 g 9 (rowS P n 0) := by rw [← hw3.out, ← hg.out]; exact Blk.new _ _ _
  have A3 := hB.below hbA hB.lt
  have H3 := below_then H2.out hbA
  have hgw : Hid (w.heap.size ≤ g) := by rw [← hg.out]; exact H2.out.size
  have hgd : Hid (gd ≠ g) := by show _ ≠ _; rw [← hg.out]; exact Nat.ne_of_lt hB.lt
  try rw [hw3.out]
  try rw [hg.out]
  clear hbA hB H2 hw3 mk hg
  go_loopw [31] (fun i wr => ∃ k : Nat, i = .int .i64 (k : Int) ∧ k ≤ n ∧ Blk wr g 9 (rowS P n k) ∧ Blk wr gd 3 (rowA .i64 F n n) ∧ Below w.heap.size w wr) (fun i _ => n - (intOf i).toNat)
  case atStart => exact ⟨0, rfl, by omega, B3, A3, H3⟩
  case round =>
    obtain ⟨k, rfl, hk, hB, hA, hb⟩ := hrel
    clear B3 A3 H3
    by_cases hlt : k < n
    · obtain ⟨d, hd⟩ : ∃ d, Hid (F k = d) := ⟨_, rfl⟩
      have hd255 : d ≤ 255 := by rw [← hd.out]; exact hFl.out k
      obtain ⟨y, hy⟩ : ∃ y, Hid (P k = y) := ⟨_, rfl⟩
      have c0 : wr.cell? ⟨gd, k, none⟩ = some (.int .i64 (d : Int)) := by rw [hA.cell, rowA_all _ _ _ _ hlt, hd.out]
      have dV : Hid (∀ W, LaidH W → Calls Tryd.prog 55 #[.string sd, .int .i64 (k : Int), .int .i64 (d : Int)] W fun e w' => e = .returned (.string y) ∧ Below W.heap.size W w') := fun W hW => by
        have := value_any sd ks hks h32 k d (by omega) hd255 W hW
        rwa [← hd.out, hPi.out, hy.out, hd.out] at this
      have hB2 := hidIt hB
      have hA2 := hidIt hA
      have hb2 := hidIt hb
      clear hB hA hb
      go_wp2_with (fail)
      refine (dV.out _ (hL.below hb2.out hL.two)).mono ?_
      rintro e w5 ⟨rfl, hb5⟩
      have B5 := hB2.out.below hb5 hB2.out.lt
      have A5 := hA2.out.below hb5 hA2.out.lt
      have H5 := hidIt (below_then hb2.out hb5)
      have c1 : w5.cell? ⟨g, k, none⟩ = some (.string (if k < k then P k else ⟨#[]⟩)) := by rw [B5.cell, rowS_get _ _ _ _ hlt]
      have c2 := B5.frozen k
      have B6 : Hid (Blk (w5.setCell ⟨g, k, none⟩ (.string y)) g 9 (rowS P n (k + 1))) := by
        have := B5.set_ k (.string (P k))
        rw [rowS_set, hy.out] at this
        exact this
      have A6 : Hid (Blk (w5.setCell ⟨g, k, none⟩ (.string y)) gd 3 (rowA .i64 F n n)) := A5.far (p := ⟨g, k, none⟩) hgd.out _
      have H6 : Hid (Below w.heap.size w (w5.setCell ⟨g, k, none⟩ (.string y))) := H5.out.setCell (p := ⟨g, k, none⟩) hgw.out _
      clear hb5 B5 A5 c0
      go_wp2_with (fail)
      go_roundw
      case rel => exact ⟨k + 1, by go_num, by omega, B6.out, A6.out, H6.out⟩
      case measure => simp [intOf]; omega
    · have hkn : Hid (k = n) := by show _ = _; omega
      have hfin : Hid (Strs wr (some ⟨g, 0, none⟩) ((List.range n).map P)) := rowS_strs (by have := hB; rwa [hkn.out] at this)
      have hb2 := hidIt hb
      clear hB hA hb
      go_wp2_with (fail)
      go_ret2
      exact ⟨⟨g, hgw.out, rfl, hfin.out⟩, hb2.out⟩
set_option maxRecDepth 100000 in
theorem sign_no (b s : Int) (sd dig : ByteArray) (h : okZ b s = false ∨ ¬ (dig.size : Int) = s ∨ ¬ (sd.size : Int) = 32) (w : World) :
    Calls Tryd.prog 29 #[.agg #[.int .i64 b, .int .i64 s], .string sd, .string dig] w fun e w' => e = .returned (.tuple #[.slice none 0 0, .int .i64 1]) ∧ Below w.heap.size w w' := by
  have p0 : PS w w.heap.size b s (w.alloc (.cells #[.int .i64 b, .int .i64 s] 25)) := ps_new _ _ _ _
  by_cases hd : okZ b s = false ∨ ¬ (dig.size : Int) = s
  · have h2 := hidIt hd
    clear h hd
    go_enter Tryd.func29, Tryd.ntmps29
    go_wp2_with (fail)
    refine (digits_no b s dig h2.out _).mono ?_
    rintro e w2 ⟨rfl, hb2⟩
    have HB := hidIt (p0.next hb2).bel
    clear hb2 p0
    go_wp2_with (fail)
    go_ret2
    exact ⟨rfl, HB.out⟩
  · have h1 : okZ b s = true := by
      cases hz : okZ b s with
      | true => rfl
      | false => exact absurd (.inl hz) hd
    have h2 : (dig.size : Int) = s := Classical.byContradiction fun h => hd (.inr h)
    have h3 : ¬ (sd.size : Int) = 32 := by
      rcases h with h | h | h
      · exact absurd (.inl h) hd
      · exact absurd (.inr h) hd
      · exact h
    obtain ⟨b', s', rfl, rfl, ho⟩ := okZ_of h1
    have dx : Hid (∀ W, Calls Tryd.prog 14 #[.agg #[.int .i64 (b' : Int), .int .i64 (s' : Int)], .string dig] W fun e w' => DigOk W e w' (Ot.dgs b' s' (ofStr dig)) (Ot.tot b' s') ∧ Below W.heap.size W w') := fun W => digits_ok b' s' ho dig _ (hidIt rfl) h2 W
    clear h hd h1 h2 ho
    go_enter Tryd.func29, Tryd.ntmps29
    go_wp2_with (fail)
    refine (dx.out _).mono ?_
    rintro e w2 ⟨⟨gd, hgd, rfl, hB⟩, hb2⟩
    have HB := hidIt (p0.next hb2).bel
    clear hb2 p0 dx hgd hB
    go_wp2_with (fail)
    go_ret2
    exact ⟨rfl, HB.out⟩
end Go.Proofs.YtegfbmekpmdcaaaDoor
