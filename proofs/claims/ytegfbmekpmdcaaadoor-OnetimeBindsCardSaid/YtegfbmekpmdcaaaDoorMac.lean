import Derived.Test.YtegfbmekpmdcaaaDoorHm
namespace Go.Proofs.YtegfbmekpmdcaaaDoor
open Go.RowKit
/-- the masks beside what sha256 has -/
structure LaidH (w : World) : Prop where
  l : Laid w
  m0 : w.cell? ⟨0, 0, none⟩ = some (.int .u8 54)
  m1 : w.cell? ⟨0, 1, none⟩ = some (.int .u8 92)
theorem LaidH.below {B : Nat} {w w1 : World} (h : LaidH w) (hb : Below B w w1) (hB : 2 + 1 ≤ B) : LaidH w1 :=
  ⟨h.l.below hb hB, (hb.cell (p := ⟨0, 0, none⟩) (by show 0 < B; omega)).trans h.m0, (hb.cell (p := ⟨0, 1, none⟩) (by show 0 < B; omega)).trans h.m1⟩
theorem LaidH.two {w : World} (h : LaidH w) : 2 + 1 ≤ w.heap.size := h.l.two
theorem LaidH.drewN {w : World} (h : LaidH w) (n : Nat) : LaidH (w.drewN n) := ⟨h.l.drewN n, h.m0, h.m1⟩
theorem with_any (x : Nat) (w : World) : Calls Tryd.prog 73 #[.int .u8 (x : Int)] w fun e w' => e = .returned (.func (.func 82) #[] #[.pointer (some ⟨w.heap.size, 0, none⟩)]) ∧ w'.cell? ⟨w.heap.size, 0, none⟩ = some (.int .u8 (x : Int)) ∧ Below w.heap.size w w' := by
  have hmf : ∀ (fn : Fn) (first cap : Array Value) (w : World), (Instr.makeFunc fn first cap).run Tryd.prog w = .ok (.func fn first cap) w := fun _ _ _ _ => rfl
  go_enter Tryd.func73, Tryd.ntmps73
  go_wp2
  go_ret
  exact ⟨rfl, by rw [cell_of_row _ _ _ _ _ _ (heap_alloc_new w _)]; rfl, (Below.refl _ _).alloc (Nat.le_refl _) _⟩
theorem u8_xor (a b : Nat) (ha : a < 256) (hb : b < 256) : bits BinOp.xor IntKind.u8 (a : Int) (b : Int) = ((a ^^^ b : Nat) : Int) := u8_xor_nat a b ha hb
theorem comb_any (b x q : Nat) (hb : b < 256) (hx : x < 256) (w : World) (hq : w.cell? ⟨q, 0, none⟩ = some (.int .u8 (x : Int))) :
    Calls Tryd.prog 82 #[.int .u8 (b : Int), .pointer (some ⟨q, 0, none⟩)] w fun e w' => e = .returned (.int .u8 ((b ^^^ x : Nat) : Int)) ∧ w = w' := by
  have h := u8_xor b x hb hx
  go_enter Tryd.func82, Tryd.ntmps82
  go_wp2
  go_ret
  exact ⟨rfl, rfl⟩
theorem zero64b (w : World) : (zeroValue 92).run Tryd.prog w = .ok (.agg (rowA .u8 (fun _ => 0) 64 64)) w := by kernel_rfl
theorem sliceAll64 (B : Nat) (W : World) : (Instr.sliceAt 92 (.pointer (some ⟨B, 0, none⟩)) none none none).run Tryd.prog W = .ok (.slice (some ⟨B, 0, none⟩) 64 64) W := by kernel_rfl
theorem copied_row (k : List Nat) (h : k.length ≤ 64) : ((rowA .u8 (fun _ => 0) 64 64).toList.take 0 ++ (vals k ++ (rowA .u8 (fun _ => 0) 64 64).toList.drop (0 + (vals k).length))).toArray = rowA .u8 (fun i => k.getD i 0) 64 64 := by
  apply Array.ext_getElem?
  intro i
  rw [List.take_zero, List.nil_append, List.getElem?_toArray, vals_len, Nat.zero_add]
  rcases Nat.lt_or_ge i k.length with h1 | h1
  · rw [List.getElem?_append_left (by rw [vals_len]; exact h1), rowA_all _ _ _ _ (by omega)]
    simp [vals, List.getD, h1]
  · rw [List.getElem?_append_right (by rw [vals_len]; exact h1), vals_len, List.getElem?_drop, show k.length + (i - k.length) = i by omega, Array.getElem?_toList]
    rcases Nat.lt_or_ge i 64 with h2 | h2
    · rw [rowA_all _ _ _ _ h2, rowA_all _ _ _ _ h2]
      simp [List.getD, List.getElem?_eq_none h1]
    · rw [Array.getElem?_eq_none (by rw [rowA_size]; exact h2), Array.getElem?_eq_none (by rw [rowA_size]; exact h2)]
theorem wpList_copy_key {w : World} {ops : Array Oper} {rest : List Oper} {o : Oper} {a : Act} {Q : Exit → Act → World → Prop} (hgd : o.guard = none) (d s : Operand)
    (ho : o.op = .call { callee := .builtin .copy, args := #[d, s], argTypes := #[66, 9] })
    (g : Nat) (x : ByteArray) (hd : a.eval d = .slice (some ⟨g, 0, none⟩) 64 64) (hs : a.eval s = .string x) (k : List Nat) (hk : Hid (ofStr x = k)) (hk64 : k.length ≤ 64) (F : Nat → Nat) (hF : Hid (∀ i, F i = k.getD i 0))
    (hg : Blk w g 92 (rowA .u8 (fun _ => 0) 64 64))
    (h : wpList Tryd.prog ops Q rest (a.put o.dst (goInt k.length)) (w.setRow g (rowA .u8 F 64 64))) : wpList Tryd.prog ops Q (o :: rest) a w := by
  have hsz : x.size = k.length := by rw [← hk.out, ofStr_len]
  refine wpList_copy_str hgd d s _ _ ho 5 Tryd.underlying66 size5 g 0 64 64 x hd hs (rowA .u8 (fun _ => 0) 64 64) 92 hg (vals k) ?_ ?_ ?_ ?_
  · rw [vals_len]; show _ = min _ _; omega
  · rw [strCells_vals, hk.out, List.take_of_length_le (Nat.le_refl _)]
  · rw [vals_len, rowA_size]; omega
  · rw [copied_row k hk64, vals_len, show (fun i => k.getD i 0) = F from (funext hF.out).symm]; exact h
set_option maxRecDepth 100000 in
set_option maxHeartbeats 2000000 in
theorem begin_any (s : ByteArray) (k : List Nat) (hk : Hid (ofStr s = k)) (hk64 : k.length ≤ 64) (x q : Nat) (hx : x < 256) (w : World) (hL : LaidH w) (hq : w.cell? ⟨q, 0, none⟩ = some (.int .u8 (x : Int))) :
    Calls Tryd.prog 72 #[.string s, .func (.func 82) #[] #[.pointer (some ⟨q, 0, none⟩)]] w fun e w' => (∃ bf, Sh.Held bf (Hm.pad k x) ∧ e = .returned (.agg (stC (Sh.hs (Hm.pad k x) ((Hm.pad k x).length / 64)) bf (Hm.pad k x).length).toArray)) ∧ Below w.heap.size w w' := by
  have hz := zeroSt
  have hz2 := zero64b
  have hs0 := sliceAll64
  have hql := bytes_lt hq
  have hk256 : Hid (∀ b ∈ k, b < 256) := by rw [← hk.out]; exact ofStr_lt s
  have hsz : Hid (s.size = k.length) := by rw [← hk.out, ofStr_len]; rfl
  have hb0 : Below w.heap.size w ((w.alloc (.cells (stC zeroS zeroBf 0).toArray 94)).alloc (.cells (rowA .u8 (fun _ => 0) 64 64) 92)) := ((Below.refl _ _).alloc (Nat.le_refl _) _).alloc (by simp) _
  have hB0 : Blk ((w.alloc (.cells (stC zeroS zeroBf 0).toArray 94)).alloc (.cells (rowA .u8 (fun _ => 0) 64 64) 92)) (w.heap.size + 1) 92 (rowA .u8 (fun _ => 0) 64 64) := by
    have := Blk.new (w.alloc (.cells (stC zeroS zeroBf 0).toArray 94)) 92 (rowA .u8 (fun _ => 0) 64 64)
    rwa [World.size_alloc] at this
  have hA0 : Blk ((w.alloc (.cells (stC zeroS zeroBf 0).toArray 94)).alloc (.cells (rowA .u8 (fun _ => 0) 64 64) 92)) w.heap.size 94 (stC zeroS zeroBf 0).toArray := (Blk.new w _ _).alloc _
  go_enter Tryd.func72, Tryd.ntmps72
  obtain ⟨F, hF⟩ : ∃ F : Nat → Nat, Hid (∀ i, F i = k.getD i 0) := ⟨fun i => k.getD i 0, fun _ => rfl⟩
  have hF256 : ∀ i, F i < 256 := fun i => by rw [hF.out i]; exact Hm.getD_lt hk256.out i
  go_wp2_with (refine wpList_copy_key rfl _ _ rfl (w.heap.size + 1) s rfl rfl k hk hk64 F hF hB0 ?_)
  obtain ⟨w1, hw1, hB1, hA1, hb1⟩ : ∃ w1, Hid (((w.alloc (.cells (stC zeroS zeroBf 0).toArray 94)).alloc (.cells (rowA .u8 (fun _ => 0) 64 64) 92)).setRow (w.heap.size + 1) (rowA .u8 F 64 64) = w1) ∧ Blk w1 (w.heap.size + 1) 92 (rowA .u8 F 64 64) ∧ Blk w1 w.heap.size 94 (stC zeroS zeroBf 0).toArray ∧ Below w.heap.size w w1 := by
    refine ⟨_, rfl, ?_, (setRow_other _ _ _ _ (by omega)).trans hA0, below_setRow hb0 (by omega) _⟩
    exact setRow_heap _ _ _ _ _ _ hB0
  rw [hw1.out]
  clear hw1 hB0 hA0 hb0 hz hz2
  go_loopw [11, 6] (fun i _ wr => ∃ j : Nat, j ≤ 64 ∧ i = .int .i64 j ∧ Blk wr (w.heap.size + 1) 92 (rowA .u8 (fun i => if i < j then F i ^^^ x else F i) 64 64) ∧ Blk wr w.heap.size 94 (stC zeroS zeroBf 0).toArray ∧ Below w.heap.size w wr) (fun i _ _ => 64 - (intOf i).toNat)
  case atStart => exact ⟨0, by omega, rfl, by simpa using hB1, hA1, hb1⟩
  case round =>
    obtain ⟨j, hj, rfl, hB, hA, hb⟩ := hrel
    clear hB1 hA1 hb1
    by_cases hlt : j < 64
    · have c := hB.cell j
      rw [rowA_all _ _ _ _ hlt, if_neg (by omega)] at c
      have fz := hB.frozen j
      have hqr : wr.cell? ⟨q, 0, none⟩ = some (.int .u8 (x : Int)) := (hb.cell (p := ⟨q, 0, none⟩) hql).trans hq
      have hB2 : Blk (wr.setCell ⟨w.heap.size + 1, j, none⟩ (.int .u8 ((F j ^^^ x : Nat) : Int))) (w.heap.size + 1) 92 (rowA .u8 (fun i => if i < j + 1 then F i ^^^ x else F i) 64 64) := by
        have := hB.set_ j (.int .u8 ((F j ^^^ x : Nat) : Int))
        rw [rowA_upd] at this
        rw [← rowA_congr (f := fun i => if i = j then F j ^^^ x else if i < j then F i ^^^ x else F i) (fun i _ => ?_)]
        · exact this
        · by_cases h1 : i = j
          · subst h1; simp
          · by_cases h2 : i < j
            · simp [h1, h2, show i < j + 1 by omega]
            · simp [h1, h2, show ¬ i < j + 1 by omega]
      have hB3 := hidIt hB2
      clear hB2
      have hA2 : Blk (wr.setCell ⟨w.heap.size + 1, j, none⟩ (.int .u8 ((F j ^^^ x : Nat) : Int))) w.heap.size 94 (stC zeroS zeroBf 0).toArray := hA.far (by simp) _
      have hb2 : Below w.heap.size w (wr.setCell ⟨w.heap.size + 1, j, none⟩ (.int .u8 ((F j ^^^ x : Nat) : Int))) := hb.setCell (by simp) _
      have hA3 := hidIt hA2
      have hb3 := hidIt hb2
      clear hA2 hb2 hA hB hb
      go_wp2_with (go_at_call 82; refine (comb_any (F j) x q (hF256 j) hx _ hqr).mono ?_; rintro e w2 ⟨rfl, rfl⟩)
      go_roundw
      case rel => exact ⟨j + 1, by omega, by go_num, hB3.out, hA3.out, hb3.out⟩
      case measure => simp [intOf]; omega
    · have e : j = 64 := by omega
      subst e
      obtain ⟨P, hP⟩ : ∃ P, Hid (Hm.pad k x = P) := ⟨_, rfl⟩
      have hPl : Hid (P.length = 64) := by rw [← hP.out]; exact Hm.pad_len k x
      have hP256 : Hid (∀ b ∈ P, b < 256) := by rw [← hP.out]; exact Hm.pad_lt hk256.out hx
      have hby : Bytes wr (some ⟨w.heap.size + 1, 0, none⟩) P := row_bytes hB hPl.out (Nat.le_refl _) (fun i hi => by rw [← hP.out, Hm.pad_getD _ _ _ hi, hF.out i, if_pos hi])
      have hLr := hL.below hb hL.two
      have hAB := hB.lt
      clear hlt hj hB hF hF256 hk hq hql hk256 hsz
      go_wp2_with (fail)
      refine (new_any _ hLr.l).mono ?_
      rintro e w2 ⟨rfl, hs2, hb2⟩
      have L2 := hLr.below hb2 hLr.two
      have H2 := below_then hb hb2
      have y2 := hidIt (hby.below hb2)
      have A2 := hA.below hb2 hA.lt
      clear hb hb2 hby hA hLr hL
      obtain ⟨N, hN⟩ : ∃ N, Hid (wr.heap.size = N) := ⟨_, rfl⟩
      rw [hN.out] at hs2 hAB
      have hN3 : wr.heap.size = N := hN.out
      have hN2 := hs2.lt
      go_wp2_with (fail)
      refine (smWrite_at N [] _ 64 64 P hPl.out.symm hP256.out (by simp only [List.length_nil]; have := hPl.out; omega) (by have := hPl.out; omega) _ L2.l hs2 y2.out (fun _ x hx => by cases hx; show w.heap.size + 1 ≠ N; omega)).mono ?_
      rintro e w3 ⟨rfl, hs3, hg3⟩
      rw [List.nil_append] at hs3
      have H3 := SR.grown_new H2 hg3 (by omega)
      have A3 := A2.grown hg3 (fun e => by injection e with e; omega)
      obtain ⟨bf, hH, hB3⟩ := hs3.ex
      clear hs2 hs3 L2 y2 A2 hg3 H2 hN2
      go_wp2_with (first | (refine wpList_load_row rfl 94 _ rfl N rfl 94 (stC (Sh.hs P (P.length / 64)) bf P.length).toArray (0, 0) _ hB3 Tryd.underlying94 rfl (infoSt (stC_size _ _ _ hH.1)) ?_) | (refine wpList_store_row rfl 94 _ _ rfl w.heap.size (stC (Sh.hs P (P.length / 64)) bf P.length).toArray rfl rfl 94 (stC zeroS zeroBf 0).toArray A3 (infoSt (stC_size _ _ _ hH.1)) ?c1 (stC_one _ _ _) ?_))
      case c1 => rw [stC_size _ _ _ zeroBf_len, stC_size _ _ _ hH.1]
      exact bodyPost_ret (v := .agg (stC (Sh.hs P (P.length / 64)) bf P.length).toArray) (results_cell_row (g := w.heap.size) Tryd.results72 _ _ _ _ _ _ rfl (setRow_heap _ _ _ _ _ _ A3) Tryd.underlying94 rfl (infoSt (stC_size _ _ _ hH.1))) rfl ⟨⟨bf, by rw [hP.out]; exact hH, by rw [hP.out]⟩, below_setRow H3 (Nat.le_refl _) _⟩
end Go.Proofs.YtegfbmekpmdcaaaDoor
