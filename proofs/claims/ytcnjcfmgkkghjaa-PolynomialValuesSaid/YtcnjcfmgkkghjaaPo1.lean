import Derived.Test.YtcnjcfmgkkghjaaGfM
import Derived.Test.YtcnjcfmgkkghjaaPlMul
import Derived.Laws.CopyOwn
namespace Go.Proofs.Ytcnjcfmgkkghjaa
open Go.RowKit
theorem size5 : (Try.prog.info? 5).map (·.size) = some 1 := by kernel_rfl
theorem copied_rowA (F : Nat → Nat) (n off : Nat) (ds : List Nat) (h : off + ds.length ≤ n) : ((rowA .u8 F n n).toList.take off ++ (vals ds ++ (rowA .u8 F n n).toList.drop (off + (vals ds).length))).toArray = rowA .u8 (fun i => if off ≤ i ∧ i < off + ds.length then ds.getD (i - off) 0 else F i) n n := by
  have hs : (rowA .u8 F n n).toList.length = n := by rw [Array.length_toList, rowA_size]
  apply Array.ext_getElem?
  intro i
  rw [List.getElem?_toArray, List.getElem?_append, List.getElem?_append, vals_len, List.length_take, hs, Nat.min_eq_left (by omega)]
  by_cases h1 : i < off
  · rw [if_pos h1, List.getElem?_take, if_pos h1, Array.getElem?_toList, rowA_all _ _ _ _ (by omega), rowA_all _ _ _ _ (by omega), if_neg (by omega)]
  · rw [if_neg h1]
    by_cases h2 : i - off < ds.length
    · rw [if_pos h2, rowA_all _ _ _ _ (by omega), if_pos (by omega)]
      simp [vals, List.getD, h2]
    · rw [if_neg h2, List.getElem?_drop, Array.getElem?_toList, show off + ds.length + (i - off - ds.length) = i by omega]
      by_cases h3 : i < n
      · rw [rowA_all _ _ _ _ h3, rowA_all _ _ _ _ h3, if_neg (by omega)]
      · rw [Array.getElem?_eq_none (by rw [rowA_size]; omega), Array.getElem?_eq_none (by rw [rowA_size]; omega)]
theorem grownBy_refl (w : World) (r : Option Nat) : w.grownBy w r := ⟨rfl, rfl, rfl, Nat.le_refl _, fun _ _ _ => rfl⟩
/-- copy into a row of bytes, the source nil or not -/
theorem wpList_copy_blk {w : World} {ops : Array Oper} {rest : List Oper} {o : Oper} {a : Act} {Q : Exit → Act → World → Prop} (hgd : o.guard = none) (d s : Operand)
    (ho : o.op = .call { callee := .builtin .copy, args := #[d, s], argTypes := #[22, 22] })
    (dp sp : Option Addr) (dLen dCap sLen sCap : Nat) (hd : a.eval d = .slice dp dLen dCap) (hs : a.eval s = .slice sp sLen sCap)
    (g off n : Nat) (F : Nat → Nat) (t : TypeId) (hg : Blk w g t (rowA .u8 F n n)) (ys : List Nat) (hy : Bytes w sp ys) (m : Nat) (hm : m = Nat.min sLen dLen) (hys : m ≤ ys.length)
    (hpos : 0 < m → dp = some ⟨g, off, none⟩) (hfit : off + m ≤ n)
    (h : ∀ w', Blk w' g t (rowA .u8 (fun i => if off ≤ i ∧ i < off + m then ys.getD (i - off) 0 else F i) n n) → w.grownBy w' (some g) → wpList Try.prog ops Q rest (a.put o.dst (goInt m)) w') : wpList Try.prog ops Q (o :: rest) a w := by
  by_cases h0 : m = 0
  · subst h0
    refine wpList_copy_nothing hgd d s _ _ ho 5 Try.underlying22 size5 dp sp dLen dCap sLen sCap hd hs hm.symm ?_
    refine h w ?_ (grownBy_refl _ _)
    rw [rowA_congr (g := F) (fun i _ => by rw [if_neg (by omega)])]
    exact hg
  · have hp := hpos (by omega)
    subst hp
    obtain ⟨b, o1, rfl, _⟩ := hy 0 (by omega)
    have hl : (ys.take m).length = m := by rw [List.length_take]; omega
    refine wpList_copy_own hgd d s _ _ ho 5 Try.underlying22 size5 g off dLen dCap ⟨b, o1, none⟩ sLen sCap hd hs (rowA .u8 F n n) t hg (vals (ys.take m)) (by rw [vals_len, hl, hm]) ?_ (by rw [vals_len, hl, rowA_size]; omega) vals_one ?_
    · intro j v hj
      have hjl : j < m := by
        rcases Nat.lt_or_ge j m with h | h
        · exact h
        · rw [List.getElem?_eq_none (by rw [vals_len, hl]; exact h)] at hj; cases hj
      refine bytes_cells hy j v ?_
      rw [← hj]
      unfold vals
      rw [List.getElem?_map, List.getElem?_map, List.getElem?_take, if_pos hjl]
    · rw [copied_rowA F n off (ys.take m) (by rw [hl]; exact hfit), vals_len, hl]
      refine h _ ?_ ⟨rfl, rfl, rfl, by simp [World.setRow], fun i _ hne => setRow_other _ _ i _ (fun e => hne (by rw [e]))⟩
      rw [rowA_congr (f := fun i => if off ≤ i ∧ i < off + m then ys.getD (i - off) 0 else F i) (g := fun i => if off ≤ i ∧ i < off + m then (ys.take m).getD (i - off) 0 else F i) (fun i _ => ?_)]
      · exact setRow_heap _ _ _ _ _ _ hg
      · by_cases hi : off ≤ i ∧ i < off + m
        · rw [if_pos hi, if_pos hi, List.getD_eq_getElem?_getD, List.getD_eq_getElem?_getD, List.getElem?_take, if_pos (by omega)]
        · rw [if_neg hi, if_neg hi]
theorem sliceHead (g off len cap m : Nat) (hc : m ≤ cap) (W : World) : (Instr.slice 22 (.slice (some ⟨g, off, none⟩) len cap) none (some (.int .i64 (m : Int))) none).run Try.prog W = .ok (.slice (some ⟨g, off, none⟩) m cap) W := by
  have h := run_slice_h W 22 (some ⟨g, off, none⟩) len cap (P := Try.prog) (by kernel_rfl) .i64 (m : Int) (by omega) (by omega)
  rw [h]
  have e2 : (sizeOf (Try.prog.elem 22)).run Try.prog W = .ok 1 W := by kernel_rfl
  rw [e2]
  simp only [Result.andThen, sliced, Int.toNat_natCast]
  split <;> simp [Addr.add]
theorem sliceTail (b off n cap k : Nat) (h : k < n) (hc : k < cap) (W : World) : (Instr.slice 22 (.slice (some ⟨b, off, none⟩) n cap) (some (.int .i64 (k : Int))) none none).run Try.prog W = .ok (.slice (some ⟨b, off + k, none⟩) (n - k) (cap - k)) W := by
  have h := run_slice_l W 22 (some ⟨b, off, none⟩) n cap (P := Try.prog) (by kernel_rfl) .i64 (k : Int) (by omega) (by omega)
  rw [h]
  have e2 : (sizeOf (Try.prog.elem 22)).run Try.prog W = .ok 1 W := by kernel_rfl
  rw [e2]
  simp only [Result.andThen, sliced, Int.toNat_natCast]
  rw [if_neg (by omega)]
  simp [Addr.add]
theorem ret_i64 {a b : Int} (h : a = b) : Ending.returned (.int .i64 a) = .returned (.int .i64 b) := by rw [h]
theorem degree_any (a : Option Addr) (n c : Nat) (xs : List Nat) (hn : n = xs.length) (hx : ∀ i, xs.getD i 0 < 256) (hbig : n ≤ 140737488355328) (w : World) (h : Bytes w a xs) :
    Calls Try.prog 27 #[.slice a n c] w fun e w' => e = .returned (.int .i64 ((Pl.d1 xs : Int) - 1)) ∧ w = w' := by
  have hn2 := hidIt hn
  have hx2 := hidIt hx
  have h2 := hidIt h
  clear hn hx h
  go_enter Try.func27, Try.ntmps27
  go_wp2
  go_loop [3] (fun i => ∃ k : Nat, k ≤ n ∧ i = .int .i64 ((k : Int) - 1) ∧ Hid (Pl.dn (Pl.co xs) k = Pl.d1 xs)) (fun i => (intOf i + 1).toNat)
  case atStart => exact ⟨n, Nat.le_refl _, rfl, by show _ = _; rw [hn2.out]; rfl⟩
  case round =>
    obtain ⟨k, hk, rfl, hd⟩ := hrel
    cases k with
    | zero =>
      go_wp2
      go_ret
      exact ⟨ret_i64 (by rw [← hd.out]; rfl), rfl⟩
    | succ m =>
      obtain ⟨b, off, rfl, e1⟩ := h2.out m (by have := hn2.out; omega)
      obtain ⟨y, hy⟩ : ∃ y, Hid (xs.getD m 0 = y) := ⟨_, rfl⟩
      rw [hy.out] at e1
      have e3 : ((m + 1 : Nat) : Int) - 1 = (m : Int) := by omega
      have e4 : (m : Int) < (n : Int) := by omega
      rw [e3]
      by_cases h0 : y = 0
      · subst h0
        go_wp2
        go_round
        case rel => exact ⟨m, by omega, rfl, by show _ = _; rw [← hd.out]; show _ = if xs.getD m 0 = 0 then _ else _; rw [hy.out, if_pos rfl]⟩
        case measure => simp [intOf]
      · have hne : ((y : Int) == 0) = false := by simp; omega
        go_wp2
        go_ret
        exact ⟨ret_i64 (by rw [← hd.out]; show _ = ((if xs.getD m 0 = 0 then _ else m + 1 : Nat) : Int) - 1; rw [hy.out, if_neg h0]; omega), rfl⟩
end Go.Proofs.Ytcnjcfmgkkghjaa
