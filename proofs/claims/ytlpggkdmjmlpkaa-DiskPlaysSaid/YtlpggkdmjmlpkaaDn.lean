import Derived.Test.YtlpggkdmjmlpkaaDi
namespace Go.Proofs.Ytlpggkdmjmlpkaa
open Go.RowKit
theorem infoSl : (Try.prog.info? 39).map (fun i => (i.zero, i.size, i.bytes)) = some (some (.slice none 0 0), 1, 24) := by kernel_rfl
set_option maxRecDepth 100000 in
theorem makeHdr (n z : Nat) (hn : n ≤ 1000000) (w : World) : (Instr.makeSlice 30 (.int .i64 (n : Int)) (.int .i64 (n : Int))).run Try.prog w = .ok (.slice (some ⟨w.heap.size, 0, none⟩) n n) (w.alloc (.cells (hdr (fun _ => none) z n) 39)) := by
  obtain ⟨i, hi, hz0, hz1, hz2⟩ := info_parts infoSl
  have h := run_make (P := Try.prog) w 30 39 i (.slice none 0 0) Try.underlying30 hi hz0 .i64 .i64 n n (by omega) (by omega) (by rw [hz2]; omega) (by omega)
  rw [hz1] at h
  simp only [Int.toNat_natCast] at h
  have e : madeCells (Value.slice none 0 0).cells (n * 1) = hdr (fun _ => none) z n := by
    apply Array.ext_getElem?
    intro j
    by_cases h : j < n
    · rw [hdr_get _ _ _ _ h]; simp [madeCells, Value.cells, h, Nat.mod_one, hv]
    · have e1 : (hdr (fun _ => none) z n)[j]? = none := by simp [hdr_size]; omega
      rw [e1]; simp [madeCells]; omega
  rwa [e] at h
theorem new_dk {w w1 : World} {n z : Nat} (h1 : 1 ≤ n) (h2 : n ≤ 65536) (h3 : 1 ≤ z) (h4 : z ≤ 4096) (hw : w1 = (w.alloc (.cells (hdr (fun _ => none) z n) 39)).alloc (.cells #[.int .i64 (z : Int), .slice (some ⟨w.heap.size, 0, none⟩) n n, .slice none 0 0, .int .i64 (-1), .bool false] 62)) :
    DK w1 (fun b => b = w.heap.size ∨ b = w.heap.size + 1) (w.heap.size + 1) (Dsk.fresh n z) ∧ Below w.heap.size w w1 := by
  have hs : w1.heap.size = w.heap.size + 2 := by rw [hw]; simp
  refine ⟨⟨⟨w.heap.size, fun _ => none, .slice none 0 0, fun _ => 0, ⟨Dsk.fresh_wf h1 h2 h3 h4, ?_, ?_, fun i _ _ => rfl, (fun i b _ h => by cases h), World.ownsRow_nil _ _ _ _, fun j hj => absurd hj (Nat.not_lt_zero _), (fun i k b _ _ h => by cases h), fun i j _ hj => absurd hj (Nat.not_lt_zero _)⟩, fun b hb => ?_⟩, fun b hb => by omega⟩, ?_⟩
  · have := Blk.new (w.alloc (.cells (hdr (fun _ => none) z n) 39)) 62 #[.int .i64 (z : Int), .slice (some ⟨w.heap.size, 0, none⟩) n n, .slice none 0 0, .int .i64 (-1), .bool false]
    rw [World.size_alloc] at this
    rw [hw]; exact this
  · rw [hw]; exact (Blk.new w 39 (hdr (fun _ => none) z n)).alloc _
  · rcases hb with rfl | rfl | ⟨i, _, h⟩ | h | ⟨j, hj, _⟩
    · exact .inr rfl
    · exact .inl rfl
    · cases h
    · simp [Value.ownBlock] at h
    · exact absurd hj (Nat.not_lt_zero _)
  · rw [hw]; exact ((Below.refl _ _).alloc (Nat.le_refl _) _).alloc (by simp) _
/-- what disk.New returns -/
def NewR (w : World) (e : Ending) (w' : World) (n z : Int) : Prop :=
  if (1 ≤ n ∧ n ≤ 65536) ∧ 1 ≤ z ∧ z ≤ 4096 then ∃ g S, e = .returned (.tuple #[.pointer (some ⟨g, 0, none⟩), .int .i64 0]) ∧ DK w' S g (Dsk.fresh n.toNat z.toNat) ∧ (∀ b, S b → w.heap.size ≤ b) ∧ Below w.heap.size w w'
  else e = .returned (.tuple #[.pointer none, .int .i64 1]) ∧ w' = w
set_option maxRecDepth 100000 in
theorem new_any (n z : Int) (w : World) : Calls Try.prog 13 #[.int .i64 n, .int .i64 z] w fun e w' => NewR w e w' n z := by
  by_cases hg : (1 ≤ n ∧ n ≤ 65536) ∧ 1 ≤ z ∧ z ≤ 4096
  · obtain ⟨k, rfl⟩ : ∃ k : Nat, n = (k : Int) := ⟨n.toNat, by omega⟩
    obtain ⟨q, rfl⟩ : ∃ q : Nat, z = (q : Int) := ⟨z.toNat, by omega⟩
    have hmk := makeHdr k q (by omega) w
    have hfin : Hid (∀ w1, w1 = (w.alloc (.cells (hdr (fun _ => none) q k) 39)).alloc (.cells #[.int .i64 (q : Int), .slice (some ⟨w.heap.size, 0, none⟩) k k, .slice none 0 0, .int .i64 (-1), .bool false] 62) → NewR w (.returned (.tuple #[.pointer (some ⟨w.heap.size + 1, 0, none⟩), .int .i64 0])) w1 (k : Int) (q : Int)) := fun w1 h1 => by
      obtain ⟨a, b⟩ := new_dk (w := w) (w1 := w1) (n := k) (z := q) (by omega) (by omega) (by omega) (by omega) h1
      unfold NewR
      rw [if_pos hg]
      exact ⟨_, _, rfl, a, fun b hb => by omega, b⟩
    have t1 : ¬ (k : Int) < 1 := by omega
    have t2 : ¬ (k : Int) > 65536 := by omega
    have t3 : ¬ (q : Int) < 1 := by omega
    have t4 : ¬ (q : Int) > 4096 := by omega
    clear hg
    go_enter Try.func13, Try.ntmps13
    go_wp2
    go_ret2
    exact hfin.out _ rfl
  · have hfin : Hid (NewR w (.returned (.tuple #[.pointer none, .int .i64 1])) w n z) := by
      show NewR _ _ _ _ _
      unfold NewR
      rw [if_neg hg]
      exact ⟨rfl, rfl⟩
    by_cases t1 : n < 1
    · clear hg
      go_enter Try.func13, Try.ntmps13
      go_wp2
      go_ret2
      exact hfin.out
    · by_cases t2 : n > 65536
      · clear hg
        go_enter Try.func13, Try.ntmps13
        go_wp2
        go_ret2
        exact hfin.out
      · by_cases t3 : z < 1
        · clear hg
          go_enter Try.func13, Try.ntmps13
          go_wp2
          go_ret2
          exact hfin.out
        · have t4 : z > 4096 := by omega
          clear hg
          go_enter Try.func13, Try.ntmps13
          go_wp2
          go_ret2
          exact hfin.out
/-- a copy of nothing -/
theorem copied_nil (g dB n size : Nat) (pv : Value) (left : Int) (down : Bool) (w : World) (h : DF w g dB pv size n left down) (hs : size ≤ 4096) :
    Calls Try.prog 31 #[.pointer (some ⟨g, 0, none⟩), .slice none 0 0] w fun e w' => CpR w e w' size (List.replicate size 0) := by
  obtain ⟨f0, f1, f2, f3, f4, fz⟩ := h
  have hmk := makeLen size (by omega) w
  rw [zero_row] at hmk
  have hB : Hid (Blk (w.alloc (.cells (rowA .u8 (fun _ => 0) size size) 5)) w.heap.size 5 (rowA .u8 (fun _ => 0) size size)) := Blk.new w _ _
  have hby : Hid (Bytes (w.alloc (.cells (rowA .u8 (fun _ => 0) size size) 5)) none []) := fun i hi => by simp at hi
  clear f1 f2 f3 f4 fz
  go_enter Try.func31, Try.ntmps31
  go_wp2_with (refine wpList_copy_blk rfl _ _ rfl _ _ _ _ _ _ rfl rfl w.heap.size 0 size (fun _ => 0) 5 hB.out [] hby.out 0 (by simp [Nat.min_def]) (by simp) (fun _ => rfl) (by omega) ?_; intro w2 hB2 hg2; replace hB2 := hidIt hB2; replace hg2 := hidIt hg2)
  have hfin : Hid (BB w2 w.heap.size (List.replicate size 0)) := BB.of hB2.out (by simp) (fun i hi => by show (if _ then _ else _) = _; rw [if_neg (by omega), getD_repl])
  have hbel : Hid (Below w.heap.size w w2) := ((Below.refl w.heap.size w).alloc (Nat.le_refl _) _).grown hg2.out (by simp) (fun q hq => by cases hq; exact Nat.le_refl _)
  have hlt : Hid (w.heap.size < w2.heap.size) := by have := hg2.out.size; simp at this; exact this
  clear hB2 hg2
  go_ret
  exact ⟨rfl, hfin.out, hlt.out, hbel.out⟩
theorem copied_sec {w : World} {g dB : Nat} {A : Nat → Option Nat} {pv : Value} {P : Nat → Nat} {D : Dsk} (h : DX w g dB A pv P D) {i : Nat} (hi : i < D.n) {v : Value} (hv' : v = hv D.size (A i)) :
    Calls Try.prog 31 #[.pointer (some ⟨g, 0, none⟩), v] w fun e w' => CpR w e w' D.size (D.dur i) := by
  subst hv'
  cases hA : A i with
  | none =>
    rw [h.nil i hi hA]
    exact copied_nil g dB D.n D.size pv D.left D.down w h.fields h.wf.s2
  | some b => exact copied_any g dB D.n D.size pv D.left D.down _ D.size D.size (D.dur i) w h.fields h.wf.s2 (BB.bytes (h.sec i b hi hA)) (h.wf.dl i hi).symm (h.wf.dl i hi)
/-- an image: the row R of n slices, the bytes of the one i in the block q i -/
structure Img (w' : World) (lo R : Nat) (q : Nat → Nat) (n size : Nat) (F : Nat → List Nat) : Prop where
  row : Blk w' R 39 (hdr (fun i => some (q i)) size n)
  sec : ∀ i, i < n → BB w' (q i) (F i)
  lo : lo ≤ R ∧ ∀ i, i < n → lo ≤ q i
theorem hdr_congr {A B : Nat → Option Nat} {size n : Nat} (h : ∀ i, i < n → A i = B i) : hdr A size n = hdr B size n := by
  unfold hdr
  congr 1
  apply List.map_congr_left
  intro i hi
  rw [h i (List.mem_range.1 hi)]
set_option maxRecDepth 100000 in
set_option maxHeartbeats 1000000 in
theorem image_any (g : Nat) (S : Nat → Prop) (D : Dsk) (w : World) (h : Hid (DK w S g D)) :
    Calls Try.prog 19 #[.pointer (some ⟨g, 0, none⟩)] w fun e w' => ∃ R q, e = .returned (.slice (some ⟨R, 0, none⟩) D.n D.n) ∧ Img w' w.heap.size R q D.n D.size D.dur ∧ Below w.heap.size w w' := by
  obtain ⟨⟨dB, A, pv, P, hX0, hS0⟩, hlt0⟩ := h.out
  have hX := hidIt hX0
  obtain ⟨f0, f1, f2, f3, f4, fz⟩ := hX0.fields
  have hz2 := hX0.wf.s2
  have hn2 := hX0.wf.n2
  clear hX0 hS0 hlt0 h
  obtain ⟨n, hn⟩ : ∃ n, Hid (D.n = n) := ⟨_, rfl⟩
  obtain ⟨z, hzz⟩ : ∃ z, Hid (D.size = z) := ⟨_, rfl⟩
  rw [hn.out] at f1 hn2 ⊢
  rw [hzz.out] at f0 hz2 ⊢
  have hmk := makeHdr n z (by omega) w
  have f1' : (w.alloc (.cells (hdr (fun _ => none) z n) 39)).cell? ⟨g, 1, none⟩ = some (.slice (some ⟨dB, 0, none⟩) n n) := (((Below.refl w.heap.size w).alloc (Nat.le_refl _) _).cell (p := ⟨g, 1, none⟩) (bytes_lt f1)).trans f1
  obtain ⟨R, hR⟩ : ∃ R, Hid (w.heap.size = R) := ⟨_, rfl⟩
  have hB0 : Hid (Below R w (w.alloc (.cells (hdr (fun _ => none) z n) 39)) ∧ Blk (w.alloc (.cells (hdr (fun _ => none) z n) 39)) R 39 (hdr (fun _ => none) z n)) := by
    rw [← hR.out]
    exact ⟨(Below.refl _ _).alloc (Nat.le_refl _) _, Blk.new w _ _⟩
  clear f2 f3 f4 fz
  go_enter Try.func19, Try.ntmps19
  go_wp2_with (fail)
  rw [hR.out]
  go_loopw [17] (fun i wr => ∃ k : Nat, i = .int .i64 (k : Int) ∧ k ≤ n ∧ Hid (Below R w wr) ∧ Hid (∃ q : Nat → Nat, Blk wr R 39 (hdr (fun i => if i < k then some (q i) else none) z n) ∧ ∀ i, i < k → BB wr (q i) (D.dur i) ∧ R < q i)) (fun i _ => n - (intOf i).toNat)
  case atStart => exact ⟨0, rfl, by omega, hB0.out.1, fun _ => 0, by rw [hdr_congr (B := fun _ => none) (fun i _ => if_neg (Nat.not_lt_zero _))]; exact hB0.out.2, fun i hi => absurd hi (Nat.not_lt_zero _)⟩
  case round =>
    obtain ⟨k, rfl, hk, hb, hr⟩ := hrel
    obtain ⟨q, hBr, hq⟩ := hr.out
    clear hr f0 f1 f1' hmk hB0
    by_cases hkn : k < n
    · have hXr := hX.out.below (by rw [hR.out]; exact hb.out)
      have c1 := hXr.row.cell k
      rw [hdr_get _ _ _ _ (by rw [hn.out]; exact hkn)] at c1
      obtain ⟨v, hv'⟩ : ∃ v, Hid (v = hv D.size (A k)) := ⟨_, rfl⟩
      rw [← hv'.out] at c1
      have dC := hidIt (copied_sec hXr (i := k) (by rw [hn.out]; exact hkn) hv'.out)
      rw [hzz.out] at dC
      have t1 : (k : Int) < (n : Int) := by omega
      have hwr : R < wr.heap.size := hBr.lt
      have hft : Hid (∀ w2, BB w2 wr.heap.size (D.dur k) → Below wr.heap.size wr w2 → w2.cell? ⟨R, k, none⟩ = some (.slice none 0 0) ∧ w2.frozen? ⟨R, k, none⟩ = false ∧ Below R w (w2.setCell ⟨R, k, none⟩ (.slice (some ⟨wr.heap.size, 0, none⟩) z z)) ∧ (∃ q : Nat → Nat, Blk (w2.setCell ⟨R, k, none⟩ (.slice (some ⟨wr.heap.size, 0, none⟩) z z)) R 39 (hdr (fun i => if i < k + 1 then some (q i) else none) z n) ∧ ∀ i, i < k + 1 → BB (w2.setCell ⟨R, k, none⟩ (.slice (some ⟨wr.heap.size, 0, none⟩) z z)) (q i) (D.dur i) ∧ R < q i)) := fun w2 hq2 hb2 => by
        have hB2 := hBr.below hb2 hwr
        have hsz := hb2.size
        refine ⟨by rw [hB2.cell, hdr_get _ _ _ _ hkn, if_neg (by omega)]; rfl, hB2.frozen k, ?_, fun i => if i = k then wr.heap.size else q i, ?_, fun i hi => ?_⟩
        · have h1 : Below R wr w2 := hb2.mono (by omega)
          exact (hb.out.trans h1).setCell (Nat.le_refl _) _
        · have e := hB2.set_ k (.slice (some ⟨wr.heap.size, 0, none⟩) z z)
          rw [hdr_set] at e
          rw [hdr_congr (B := fun i => if i = k then some wr.heap.size else if i < k then some (q i) else none) (fun i _ => by
            by_cases h1 : i = k
            · rw [if_pos h1, if_pos (by omega)]; show some (if i = k then _ else _) = _; rw [if_pos h1]
            · rw [if_neg h1]
              by_cases h2 : i < k
              · rw [if_pos h2, if_pos (by omega)]; show some (if i = k then _ else _) = _; rw [if_neg h1]
              · rw [if_neg h2, if_neg (by omega)])]
          exact e
        · show BB _ (if i = k then _ else _) _ ∧ R < (if i = k then _ else _)
          by_cases h1 : i = k
          · rw [if_pos h1, h1]
            exact ⟨Blk.far hq2 (show wr.heap.size ≠ R by omega) _, hwr⟩
          · rw [if_neg h1]
            obtain ⟨a, b⟩ := hq i (by omega)
            exact ⟨Blk.far (Blk.below a hb2 (Blk.lt a)) (show q i ≠ R by omega) _, b⟩
      clear hXr hBr hq hb hv'
      go_wp2_with (fail)
      refine dC.out.mono ?_
      rintro e w2 ⟨rfl, hq2, hq3, hb2⟩
      obtain ⟨d1, d2, d3, d4⟩ := hft.out w2 hq2 hb2
      replace d3 := hidIt d3
      replace d4 := hidIt d4
      clear hft hq2 hq3 hb2 dC
      go_wp2_with (fail)
      exact ⟨⟨k + 1, by go_num, by omega, d3, d4⟩, by simp [intOf]; omega⟩
    · have hkn' : k = n := by omega
      have hfin : Hid (∃ q, Img wr R R q n z D.dur) := ⟨q, by
        refine ⟨?_, fun i hi => (hq i (by omega)).1, Nat.le_refl _, fun i hi => Nat.le_of_lt (hq i (by omega)).2⟩
        rw [hdr_congr (B := fun i => if i < k then some (q i) else none) (fun i hi => by rw [if_pos (by omega)])]
        exact hBr⟩
      clear hBr hq hkn'
      go_wp2_with (fail)
      go_ret
      obtain ⟨q, hq⟩ := hfin.out
      exact ⟨R, q, rfl, by rw [hR.out]; exact hq, by rw [hR.out]; exact hb.out⟩
end Go.Proofs.Ytlpggkdmjmlpkaa
