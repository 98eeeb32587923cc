import Derived.Test.YtegfbmekpmdcaaaDoorState
import Derived.Deep.MidRow
namespace Go.Proofs.YtegfbmekpmdcaaaDoor
open Go.RowKit
/-- the padding while its last bytes are laid -/
def padF (L k : Nat) (i : Nat) : Nat := if i = 0 then 128 else if Sh.gap L ≤ i ∧ i < Sh.gap L + k then 8 * L / 2 ^ (8 * (7 - (i - Sh.gap L))) % 256 else 0
theorem gap_bd (L : Nat) : 1 ≤ Sh.gap L ∧ Sh.gap L ≤ 64 := by unfold Sh.gap; omega
theorem tail_get (L i : Nat) (h : i < Sh.gap L + 8) : padF L 8 i = (Sh.tail L).getD i 0 := by
  have hg := gap_bd L
  unfold padF Sh.tail
  have hl : (128 :: List.replicate (Sh.gap L - 1) 0).length = Sh.gap L := by simp; omega
  by_cases h1 : i < Sh.gap L
  · rw [List.getD_eq_getElem?_getD, List.getElem?_append_left (by rw [hl]; exact h1)]
    by_cases h0 : i = 0
    · subst h0; rw [if_pos rfl]; rfl
    · rw [if_neg h0, if_neg (by omega)]
      obtain ⟨j, rfl⟩ : ∃ j, i = j + 1 := ⟨i - 1, by omega⟩
      rw [List.getElem?_cons_succ, List.getElem?_replicate]
      split <;> rfl
  · rw [if_neg (by omega), if_pos (by omega), List.getD_eq_getElem?_getD, List.getElem?_append_right (by rw [hl]; omega), hl]
    unfold Sh.be8
    rw [List.getElem?_map, List.getElem?_range (by omega), Option.map_some, Option.getD_some]
theorem padF_step (L k : Nat) (i : Nat) : (if i = Sh.gap L + k then 8 * L / 2 ^ (8 * (7 - k)) % 256 else padF L k i) = padF L (k + 1) i := by
  have hg := gap_bd L
  unfold padF
  by_cases h : i = Sh.gap L + k
  · subst h
    rw [if_pos rfl, if_neg (by omega), if_pos (by omega), show Sh.gap L + k - Sh.gap L = k by omega]
  · rw [if_neg h]
    by_cases h0 : i = 0
    · rw [if_pos h0, if_pos h0]
    · rw [if_neg h0, if_neg h0]
      by_cases h1 : Sh.gap L ≤ i ∧ i < Sh.gap L + k
      · rw [if_pos h1, if_pos (by omega)]
      · rw [if_neg h1, if_neg (by omega)]
theorem zero72 (w : World) : (zeroValue 108).run Tryd.prog w = .ok (.agg (rowA .u8 (fun _ => 0) 72 72)) w := by kernel_rfl
theorem len72 : Tryd.prog.arrayLen 108 = 72 := by kernel_rfl
theorem slice72 (q h : Nat) (hh : h ≤ 72) (W : World) : (Instr.sliceAt 108 (.pointer (some ⟨q, 0, none⟩)) none (some (.int .i64 (h : Int))) none).run Tryd.prog W = .ok (.slice (some ⟨q, 0, none⟩) h 72) W := by
  have e := run_sliceAt_array_h W 108 ⟨q, 0, none⟩ (P := Tryd.prog) (by kernel_rfl) .i64 (h : Int) (by omega) (by rw [len72]; omega)
  rw [e]
  have e2 : (sizeOf (Tryd.prog.elem 108)).run Tryd.prog W = .ok 1 W := by kernel_rfl
  rw [e2, len72]
  simp [Result.andThen, slicedAt, Addr.add]
/-- the state in the loop of Sum -/
structure SuR (w : World) (ys : List Nat) (wr : World) (k : Nat) : Prop where
  st : SR wr w.heap.size ys
  row : Blk wr (w.heap.size + 1) 108 (rowA .u8 (padF ys.length k) 72 72)
  bel : Below w.heap.size w wr
theorem SR.far {w w' : World} {g : Nat} {ys : List Nat} (h : SR w g ys) (hb : w'.heap[g]? = w.heap[g]?) : SR w' g ys := by
  obtain ⟨bf, h1, h2⟩ := h.ex
  exact ⟨h.two, bf, h1, hb.trans h2⟩
theorem SuR.step {w : World} {ys : List Nat} {wr : World} {k : Nat} {v : Int} (h : SuR w ys wr k) (hv : v = ((8 * ys.length / 2 ^ (8 * (7 - k)) % 256 : Nat) : Int)) : SuR w ys (wr.setCell ⟨w.heap.size + 1, Sh.gap ys.length + k, none⟩ (.int .u8 v)) (k + 1) := by
  refine ⟨h.st.far (heap_setCell_other _ _ _ _ (by simp)), ?_, h.bel.setCell (by simp) _⟩
  have := h.row.set_ (Sh.gap ys.length + k) (.int .u8 v)
  rw [hv, rowA_upd] at this
  rw [hv, ← rowA_congr (fun i _ => padF_step ys.length k i)]
  exact this
theorem SuR.start (w w1 : World) (ys : List Nat) (hs : SR w1 w.heap.size ys) (hz : w1.heap.size = w.heap.size + 1) (hb1 : Below w.heap.size w w1) : SuR w ys (w1.alloc (.cells ((rowA .u8 (fun _ => 0) 72 72).setIfInBounds 0 (.int .u8 128)) 108)) 0 := by
  refine ⟨hs.far (Below.heap_alloc _ _ _ (by omega)), ?_, hb1.alloc (by omega) _⟩
  have h3 := (Blk.new w1 108 ((rowA .u8 (fun _ => 0) 72 72).setIfInBounds 0 (.int .u8 128)))
  rw [hz] at h3
  have e : (rowA .u8 (fun _ => 0) 72 72).setIfInBounds 0 (.int .u8 128) = rowA .u8 (padF ys.length 0) 72 72 := by
    rw [show (128 : Int) = ((128 : Nat) : Int) from rfl, rowA_upd]
    apply rowA_congr
    intro i _
    unfold padF
    by_cases h : i = 0
    · rw [if_pos h, if_pos h]
    · rw [if_neg h, if_neg h, if_neg (by omega)]
  rw [e] at h3 ⊢
  exact h3
set_option maxRecDepth 100000 in
set_option maxHeartbeats 2000000 in
theorem smSumR_any (g : Nat) (ys : List Nat) (bf : List Nat) (hbig : ys.length ≤ 140737488355000) (w : World) (hL : Laid w) (hH : Sh.Held bf ys) (hR : w.rangeAt g 0 (stC (Sh.hs ys (ys.length / 64)) bf ys.length)) :
    Calls Tryd.prog 70 #[.pointer (some ⟨g, 0, none⟩)] w fun e w' => e = .returned (.string (str (Sh.sum ys))) ∧ Below w.heap.size w w' := by
  have hb64 := hH.1
  have hlt : g < w.heap.size := bytes_lt (hR 72 _ (stC_length _ _ _ hb64))
  have hz := zeroSt
  have hz2 := zero72
  have hbA : Below w.heap.size w ((w.alloc (.cells (stC zeroS zeroBf 0).toArray 94)).setRow w.heap.size (stC (Sh.hs ys (ys.length / 64)) bf ys.length).toArray) := below_setRow ((Below.refl _ _).alloc (Nat.le_refl _) _) (Nat.le_refl _) _
  have hst0 := hidIt (SuR.start w ((w.alloc (.cells (stC zeroS zeroBf 0).toArray 94)).setRow w.heap.size (stC (Sh.hs ys (ys.length / 64)) bf ys.length).toArray) ys ⟨hL.two, bf, hH, setRow_heap _ _ _ _ _ _ (heap_alloc_new _ _)⟩ (by simp) hbA)
  have hg := gap_bd ys.length
  obtain ⟨L, hL1⟩ : ∃ L, Hid (ys.length = L) := ⟨_, rfl⟩
  have hbigL : L ≤ 140737488355000 := hL1.out ▸ hbig
  obtain ⟨n, hn⟩ : ∃ n, Hid (Sh.gap L = n) := ⟨_, rfl⟩
  have hn1 : (64 : Int) - ((L : Int) + 8) % 64 = (n : Int) := by rw [← hn.out]; unfold Sh.gap; omega
  have hng : 1 ≤ n ∧ n ≤ 64 := by rw [← hn.out]; exact gap_bd L
  have hng1 := hng.1
  have hng2 := hng.2
  have c72 := hR 72 _ (stC_length _ _ _ hb64)
  rw [hL1.out, Nat.zero_add] at c72
  have k72 : ((w.alloc (.cells (stC zeroS zeroBf 0).toArray 94)).setRow w.heap.size (stC (Sh.hs ys (ys.length / 64)) bf ys.length).toArray).cell? ⟨g, 72, none⟩ = some (.int .i64 (L : Int)) := (hbA.cell (p := ⟨g, 72, none⟩) hlt).trans c72
  have h72 : (rowA .u8 (fun _ => 0) 72 72)[0]? = some (.int .u8 0) := by rw [rowA_all _ _ _ _ (by decide)]; rfl
  clear hg hng
  go_enter Tryd.func70, Tryd.ntmps70
  go_wp2_with (first | (refine wpList_load_mid rfl 94 _ rfl g 0 rfl (stC (Sh.hs ys (ys.length / 64)) bf ys.length) _ hR Tryd.underlying94 rfl ((infoSt (stC_size _ _ _ hb64)).trans (by rw [List.size_toArray])) ?_) | (refine wpList_store_row rfl 94 _ _ rfl w.heap.size (stC (Sh.hs ys (ys.length / 64)) bf ys.length).toArray rfl rfl 94 (stC zeroS zeroBf 0).toArray (heap_alloc_new _ _) (infoSt (stC_size _ _ _ hb64)) ?c1 (stC_one _ _ _) ?_))
  case c1 => rw [stC_size _ _ _ zeroBf_len, stC_size _ _ _ hb64]
  clear h72 k72 c72 hz hz2 hbA hR hn1
  go_loopw [25, 7] (fun i _ wr => ∃ k : Nat, k ≤ 8 ∧ i = .int .i64 k ∧ SuR w ys wr k) (fun i _ _ => 8 - (intOf i).toNat)
  case atStart => exact ⟨0, by omega, rfl, hst0.out⟩
  case round =>
    obtain ⟨k, hk, rfl, R⟩ := hrel
    by_cases hlt8 : k < 8
    · have c := R.row.cell (n + k)
      rw [rowA_all _ _ _ _ (by omega)] at c
      have fz := R.row.frozen (n + k)
      obtain ⟨e, he⟩ : ∃ e, e = 7 - k := ⟨_, rfl⟩
      have he2 : (7 : Int) - (k : Int) = (e : Int) := by omega
      have he3 : e ≤ 7 := by omega
      have hval : Hid ((((L : Int) * 8) / 2 ^ (8 * e)) % 256 = ((8 * ys.length / 2 ^ (8 * (7 - k)) % 256 : Nat) : Int)) := by
        show _ = _
        rw [show (L : Int) * 8 = ((8 * L : Nat) : Int) by omega, shr_byte, he, hL1.out]
      clear he
      go_wp2
      go_roundw
      case rel => exact ⟨k + 1, by omega, by go_num, by have := R.step hval.out; rw [hL1.out, hn.out] at this; exact this⟩
      case measure => simp [intOf]; omega
    · have R8 : SuR w ys wr 8 := by
        have e : k = 8 := by omega
        subst e; exact R
      have hsl : ∀ W, (Instr.sliceAt 108 (.pointer (some ⟨w.heap.size + 1, 0, none⟩)) none (some (.int .i64 ((n : Int) + 8))) none).run Tryd.prog W = .ok (.slice (some ⟨w.heap.size + 1, 0, none⟩) (n + 8) 72) W := fun W => by
        have := slice72 (w.heap.size + 1) (n + 8) (by omega) W
        rwa [show ((n + 8 : Nat) : Int) = (n : Int) + 8 by omega] at this
      have htl : Hid ((Sh.tail ys.length).length = n + 8) := by show _ = _; rw [Sh.tail_len, hL1.out, hn.out]
      have hby : Bytes wr (some ⟨w.heap.size + 1, 0, none⟩) (Sh.tail ys.length) := row_bytes R8.row htl.out (by omega) (fun i hi => tail_get _ _ (by rw [hL1.out, hn.out]; exact hi))
      have hLr := hL.below R8.bel hL.two
      have hsr := R8.st
      have hbr := R8.bel
      have hrz : Hid (w.heap.size + 1 < wr.heap.size) := R8.row.lt
      clear R R8
      go_wp2_with (fail)
      rw [← htl.out]
      refine (write_any w.heap.size ys (some ⟨w.heap.size + 1, 0, none⟩) 72 (Sh.tail ys.length) (Sh.tail_lt _) (by rw [htl.out, hL1.out]; omega) (by rw [htl.out]; omega) _ hLr hsr hby (fun _ x hx => by cases hx; simp)).mono ?_
      rintro e w1 ⟨rfl, hs1, hg1⟩
      have hb1 := hbr.grown hg1 hbr.size (fun q hq => by cases hq; exact Nat.le_refl _)
      obtain ⟨bf2, hH2, hB2⟩ := hs1.ex
      have hpad : Hid (Sh.pad ys = ys ++ Sh.tail ys.length) := rfl
      rw [← hpad.out] at hB2
      go_wp2_with (fail)
      refine (bytes_any w.heap.size (Sh.hs (Sh.pad ys) ((Sh.pad ys).length / 64)) (Sh.hs_ok _ _) bf2 _ _ hB2).mono ?_
      rintro e w2 ⟨rfl, hb2⟩
      go_wp2_with (fail)
      go_ret
      exact ⟨rfl, below_then hb1 hb2⟩
theorem blk_range {w : World} {g : Nat} {ty : TypeId} {cs : List Value} (h : Blk w g ty cs.toArray) : w.rangeAt g 0 cs := fun j v hv => by
  rw [Nat.zero_add, h.cell j, List.getElem?_toArray]; exact hv
theorem stP_range {w : World} {g : Nat} {ty : TypeId} {s : Sh.St} {bf : List Nat} {n : Nat} {post : List Value} (h : Blk w g ty (stP s bf n post).toArray) : w.rangeAt g 0 (stC s bf n) := fun j v hv => by
  rw [stP_stC] at h
  rw [Nat.zero_add, h.cell j, List.getElem?_toArray, List.getElem?_append_left (List.getElem?_eq_some_iff.1 hv).1]; exact hv
theorem smSumP_any (ty : TypeId) (post : List Value) (g : Nat) (ys : List Nat) (hbig : ys.length ≤ 140737488355000) (w : World) (hL : Laid w) (hS : SRx ty post w g ys) :
    Calls Tryd.prog 70 #[.pointer (some ⟨g, 0, none⟩)] w fun e w' => e = .returned (.string (str (Sh.sum ys))) ∧ Below w.heap.size w w' := by
  obtain ⟨bf, hH, hB⟩ := hS.ex
  exact smSumR_any g ys bf hbig w hL hH (stP_range hB)
theorem smSum_any (g : Nat) (ys : List Nat) (hbig : ys.length ≤ 140737488355000) (w : World) (hL : Laid w) (hS : SR w g ys) :
    Calls Tryd.prog 70 #[.pointer (some ⟨g, 0, none⟩)] w fun e w' => e = .returned (.string (str (Sh.sum ys))) ∧ Below w.heap.size w w' := by
  exact smSumP_any 94 [] g ys hbig w hL hS.x
end Go.Proofs.YtegfbmekpmdcaaaDoor
