import Derived.Test.YtfdbdhknamkipaaSum
import Derived.Lib.AppendStr
namespace Go.Proofs.Ytfdbdhknamkipaa
open Go.RowKit
/-- the bytes of a string -/
def ofStr (s : ByteArray) : List Nat := s.data.toList.map UInt8.toNat
theorem ofStr_len (s : ByteArray) : (ofStr s).length = s.size := by unfold ofStr; rw [List.length_map, Array.length_toList]; rfl
theorem strCells_vals (s : ByteArray) : Lib.strCells s = vals (ofStr s) := by unfold Lib.strCells vals ofStr; rw [List.map_map]; rfl
theorem ofStr_lt (s : ByteArray) : ∀ x ∈ ofStr s, x < 256 := by
  intro x hx
  simp only [ofStr, List.mem_map] at hx
  obtain ⟨b, _, rfl⟩ := hx
  exact UInt8.toNat_lt b
theorem str_ofStr (s : ByteArray) : str (ofStr s) = s := by
  unfold str ofStr
  rw [List.map_map]
  have : (UInt8.ofNat ∘ UInt8.toNat) = id := by funext b; simp
  rw [this]; simp
theorem wint_any (B : Nat) (n : Int) (h1 : -9223372036854775808 ≤ n) (h2 : n ≤ 9223372036854775807) (bs : List Nat) (hbig : bs.length + 10 ≤ 140737488355328) (w : World) (h : WR w B bs 0) :
    Calls Try.prog 40 #[.pointer (some ⟨B, 0, none⟩), .int .i64 n] w fun e w' => e = .returned (.tuple #[]) ∧ WR w' B (bs ++ En.enc (zig n)) 0 ∧ Below B w w' := by
  go_enter Try.func40, Try.ntmps40
  go_wp2_with (fail)
  refine (zigzag_any n h1 h2 _).mono ?_
  rintro e w' ⟨rfl, rfl⟩
  go_wp2_with (fail)
  refine (wuint_any B (zig n) bs (zig_lt h1 h2) hbig _ h).mono ?_
  rintro e w1 ⟨rfl, h3, hb1⟩
  go_wp2_with (fail)
  go_end0
  exact ⟨rfl, h3, hb1⟩
theorem wint_err (B err : Nat) (n : Int) (h1 : -9223372036854775808 ≤ n) (h2 : n ≤ 9223372036854775807) (bs : List Nat) (he : err ≠ 0) (w : World) (h : WR w B bs err) :
    Calls Try.prog 40 #[.pointer (some ⟨B, 0, none⟩), .int .i64 n] w fun e w' => e = .returned (.tuple #[]) ∧ w = w' := by
  go_enter Try.func40, Try.ntmps40
  go_wp2_with (fail)
  refine (zigzag_any n h1 h2 _).mono ?_
  rintro e w' ⟨rfl, rfl⟩
  go_wp2_with (fail)
  refine (wuint_err B (zig n) err bs he _ h).mono ?_
  rintro e w1 ⟨rfl, rfl⟩
  go_wp2_with (fail)
  go_end0
  exact ⟨rfl, rfl⟩
theorem wcount_any (B n : Nat) (hn : n ≤ 9223372036854775807) (bs : List Nat) (hbig : bs.length + 10 ≤ 140737488355328) (w : World) (h : WR w B bs 0) :
    Calls Try.prog 44 #[.pointer (some ⟨B, 0, none⟩), .int .i64 n] w fun e w' => e = .returned (.tuple #[]) ∧ WR w' B (bs ++ En.enc n) 0 ∧ Below B w w' := by
  have h0 := h
  obtain ⟨a, cap, hB, hown⟩ := h
  have c1 : w.cell? ⟨B, 1, none⟩ = some (.int .i64 0) := by rw [cell_of_row w B 1 _ _ _ hB]; rfl
  have hz : ¬ (n : Int) < 0 := by omega
  have hw : IntKind.u64.wrap (n : Int) = (n : Int) := by rw [IntKind.wrap_u64]; omega
  clear hB hown
  go_enter Try.func44, Try.ntmps44
  go_wp2_with (fail)
  refine (wuint_any B n bs (by omega) hbig _ h0).mono ?_
  rintro e w1 ⟨rfl, h3, hb1⟩
  go_wp2_with (fail)
  go_end0
  exact ⟨rfl, h3, hb1⟩
theorem wcount_neg2 (B : Nat) (n : Int) (hn : n < 0) (bs : List Nat) (w : World) (h : WR w B bs 0) :
    Calls Try.prog 44 #[.pointer (some ⟨B, 0, none⟩), .int .i64 n] w fun e w' => e = .returned (.tuple #[]) ∧ WR w' B bs 1 ∧ Below B w w' := by
  obtain ⟨a, cap, hB, hown⟩ := h
  have c1 : w.cell? ⟨B, 1, none⟩ = some (.int .i64 0) := by rw [cell_of_row w B 1 _ _ _ hB]; rfl
  have d1 := frozen_of_row w B 1 _ _ hB
  go_enter Try.func44, Try.ntmps44
  go_wp2_with (fail)
  go_end0
  refine ⟨rfl, ⟨a, cap, ?_, ?_⟩, (Below.refl _ _).setCell (by simp) _⟩
  · rw [heap_setCell_same w B 1 _ _ _ hB]; rfl
  · exact ownsRow_setCell_below hown (a := ⟨B, 1, none⟩) (by simp) _
/-- append of a string to a row of the call's own -/
theorem wpList_append_str (w : World) {ops : Array Oper} {rest : List Oper} {o : Oper} {act : Act} {Q : Exit → Act → World → Prop} (hgd : o.guard = none) (sl x : Operand)
    (ho : o.op = .call { callee := .builtin .append, args := #[sl, x], argTypes := #[25, 9] })
    (base : Nat) (v : Value) (n : Nat) (xs : List Nat) (hs : act.eval sl = v) (hn : n = xs.length) (hown : w.ownsRow base 5 1 v n (vals xs)) (s : ByteArray) (hx : act.eval x = .string s) (hbig : n + s.size ≤ 140737488355328) (hbase : base ≤ w.heap.size)
    (h : ∀ a' c' w', w'.ownsRow base 5 1 (.slice a' (xs ++ ofStr s).length c') (xs ++ ofStr s).length (vals (xs ++ ofStr s)) → w.grownBy w' v.ownBlock → wpList Try.prog ops Q rest (act.put o.dst (.slice a' (xs ++ ofStr s).length c')) w') : wpList Try.prog ops Q (o :: rest) act w := by
  obtain ⟨i0, hi, hz0, hz1, hz2⟩ := info_parts info5
  refine Lib.wpList_append_own_string w hgd sl x 25 9 ho base 5 i0 Try.underlying25 Try.underlying9 hi hz0 hz1 hz2 v n (vals xs) hs hown s hx (by unfold maxLen; omega) hbig hbase ?_
  intro v' w' ho' hg _
  rw [strCells_vals, vals_append] at ho'
  have hl : n + s.size = (xs ++ ofStr s).length := by simp [ofStr_len, hn]
  rw [hl] at ho'
  obtain ⟨a', c', rfl, _, _⟩ := owned_bytes ho' rfl
  exact h a' c' w' ho' hg
set_option maxHeartbeats 1000000 in
theorem writeAllT_any (B : Nat) (s : ByteArray) (bs : List Nat) (hbig : bs.length + s.size + 20 ≤ 140737488355328) (w : World) (h : WR w B bs 0) :
    Calls Try.prog 65 #[.pointer (some ⟨B, 0, none⟩), .string s] w fun e w' => e = .returned (.tuple #[]) ∧ WR w' B (bs ++ En.enc s.size ++ ofStr s) 0 ∧ Below B w w' := by
  have hl10 := (En.enc_len s.size).2
  have hw : IntKind.u64.wrap (s.size : Int) = (s.size : Int) := by rw [IntKind.wrap_u64]; omega
  go_enter Try.func65, Try.ntmps65
  go_wp2_with (fail)
  refine (wuint_any B s.size bs (by omega) (by omega) _ h).mono ?_
  rintro e w1 ⟨rfl, h1, hb1⟩
  have hlt := h1.lt
  obtain ⟨a1, cap1, hB1, hown1⟩ := h1
  have c0 : w1.cell? ⟨B, 0, none⟩ = some (.slice a1 (bs ++ En.enc s.size).length cap1) := by rw [cell_of_row w1 B 0 _ _ _ hB1]; rfl
  have c1 : w1.cell? ⟨B, 1, none⟩ = some (.int .i64 0) := by rw [cell_of_row w1 B 1 _ _ _ hB1]; rfl
  have hzl : (bs ++ En.enc s.size).length ≤ bs.length + 10 := by simp; omega
  clear h
  generalize hzs : bs ++ En.enc s.size = zs at *
  have hz2 := hidIt hzs
  clear hzs
  go_wp2_with (at_builtin; refine wpList_append_str _ rfl _ _ rfl (B + 1) _ zs.length zs rfl rfl hown1 s rfl (by omega) (by omega) ?_)
  intro a2 cap2 w2 hown3 hg2
  have hb2 : Below (B + 1) w1 w2 := (Below.refl _ _).grown hg2 (by omega) (fun q hq => (hown1.lt q hq).1)
  have hB2 : w2.heap[B]? = some (.cells #[.slice a1 zs.length cap1, .int .i64 0] 67 (0, 0)) := (hb2.block B (by omega)).trans hB1
  have d0 : w2.cell? ⟨B, 0, none⟩ = some (.slice a1 zs.length cap1) := by rw [cell_of_row w2 B 0 _ _ _ hB2]; rfl
  have d1 := frozen_of_row w2 B 0 _ _ hB2
  clear c0 c1 hown1 hg2
  go_wp2_with (fail)
  go_end0
  rw [hz2.out]
  refine ⟨rfl, ⟨a2, cap2, ?_, ?_⟩, (hb1.trans (hb2.mono (by omega))).setCell (by simp) _⟩
  · rw [heap_setCell_same w2 B 0 _ _ _ hB2, List.length_append]; rfl
  · rw [List.length_append]
    exact ownsRow_setCell_below hown3 (a := ⟨B, 0, none⟩) (by simp) _
theorem wtext_any (B : Nat) (s : ByteArray) (bs : List Nat) (hbig : bs.length + s.size + 20 ≤ 140737488355328) (w : World) (h : WR w B bs 0) :
    Calls Try.prog 42 #[.pointer (some ⟨B, 0, none⟩), .string s] w fun e w' => e = .returned (.tuple #[]) ∧ WR w' B (bs ++ En.enc s.size ++ ofStr s) 0 ∧ Below B w w' := by
  go_enter Try.func42, Try.ntmps42
  go_wp2_with (fail)
  refine (writeAllT_any B s bs hbig _ h).mono ?_
  rintro e w1 ⟨rfl, h1, hb1⟩
  go_wp2_with (fail)
  go_end0
  exact ⟨rfl, h1, hb1⟩
theorem wtext_err (B err : Nat) (s : ByteArray) (hs : s.size < 9223372036854775807) (bs : List Nat) (he : err ≠ 0) (w : World) (h : WR w B bs err) :
    Calls Try.prog 42 #[.pointer (some ⟨B, 0, none⟩), .string s] w fun e w' => e = .returned (.tuple #[]) ∧ w = w' := by
  have hw : Calls Try.prog 65 #[.pointer (some ⟨B, 0, none⟩), .string s] w fun e w' => e = .returned (.tuple #[]) ∧ w = w' := by
    have h2 := h
    obtain ⟨a1, cap1, hB, hown⟩ := h
    have c1 : w.cell? ⟨B, 1, none⟩ = some (.int .i64 err) := by rw [cell_of_row w B 1 _ _ _ hB]; rfl
    have hne : ((err : Int) == 0) = false := by simp; omega
    have hwr : IntKind.u64.wrap (s.size : Int) = (s.size : Int) := by rw [IntKind.wrap_u64]; omega
    go_enter Try.func65, Try.ntmps65
    go_wp2_with (fail)
    refine (wuint_err B s.size err bs he _ h2).mono ?_
    rintro e w1 ⟨rfl, rfl⟩
    go_wp2_with (fail)
    go_end0
    exact ⟨rfl, rfl⟩
  go_enter Try.func42, Try.ntmps42
  go_wp2_with (fail)
  refine hw.mono ?_
  rintro e w1 ⟨rfl, rfl⟩
  go_wp2_with (fail)
  go_end0
  exact ⟨rfl, rfl⟩
theorem wsum_bad (B : Nat) (s : ByteArray) (hs : s.size ≠ 32) (bs : List Nat) (w : World) (h : WR w B bs 0) :
    Calls Try.prog 43 #[.pointer (some ⟨B, 0, none⟩), .string s] w fun e w' => e = .returned (.tuple #[]) ∧ WR w' B bs 1 ∧ Below B w w' := by
  obtain ⟨a, cap, hB, hown⟩ := h
  have c1 : w.cell? ⟨B, 1, none⟩ = some (.int .i64 0) := by rw [cell_of_row w B 1 _ _ _ hB]; rfl
  have d1 := frozen_of_row w B 1 _ _ hB
  have hz : ((s.size : Int) != 32) = true := by simp; omega
  go_enter Try.func43, Try.ntmps43
  go_wp2_with (fail)
  go_end0
  refine ⟨rfl, ⟨a, cap, ?_, ?_⟩, (Below.refl _ _).setCell (by simp) _⟩
  · rw [heap_setCell_same w B 1 _ _ _ hB]; rfl
  · exact ownsRow_setCell_below hown (a := ⟨B, 1, none⟩) (by simp) _
theorem wsum_err (B err : Nat) (s : ByteArray) (bs : List Nat) (he : err ≠ 0) (w : World) (h : WR w B bs err) :
    Calls Try.prog 43 #[.pointer (some ⟨B, 0, none⟩), .string s] w fun e w' => e = .returned (.tuple #[]) ∧ w = w' := by
  obtain ⟨a, cap, hB, hown⟩ := h
  have c1 : w.cell? ⟨B, 1, none⟩ = some (.int .i64 err) := by rw [cell_of_row w B 1 _ _ _ hB]; rfl
  have hne : ((err : Int) != 0) = true := by simp; omega
  go_enter Try.func43, Try.ntmps43
  go_wp2_with (fail)
  go_end0
  exact ⟨rfl, rfl⟩
set_option maxHeartbeats 1000000 in
theorem wsum_any (B : Nat) (s : ByteArray) (hs : s.size = 32) (bs : List Nat) (hbig : bs.length + 40 ≤ 140737488355328) (w : World) (h : WR w B bs 0) :
    Calls Try.prog 43 #[.pointer (some ⟨B, 0, none⟩), .string s] w fun e w' => e = .returned (.tuple #[]) ∧ WR w' B (bs ++ ofStr s) 0 ∧ Below B w w' := by
  have hlt := h.lt
  obtain ⟨a1, cap1, hB1, hown1⟩ := h
  have c0 : w.cell? ⟨B, 0, none⟩ = some (.slice a1 bs.length cap1) := by rw [cell_of_row w B 0 _ _ _ hB1]; rfl
  have c1 : w.cell? ⟨B, 1, none⟩ = some (.int .i64 0) := by rw [cell_of_row w B 1 _ _ _ hB1]; rfl
  have hz : ((s.size : Int) != 32) = false := by simp; omega
  go_enter Try.func43, Try.ntmps43
  go_wp2_with (at_builtin; refine wpList_append_str _ rfl _ _ rfl (B + 1) _ bs.length bs rfl rfl hown1 s rfl (by omega) (by omega) ?_)
  intro a2 cap2 w2 hown3 hg2
  have hb2 : Below (B + 1) w w2 := (Below.refl _ _).grown hg2 (by omega) (fun q hq => (hown1.lt q hq).1)
  have hB2 : w2.heap[B]? = some (.cells #[.slice a1 bs.length cap1, .int .i64 0] 67 (0, 0)) := (hb2.block B (by omega)).trans hB1
  have d0 : w2.cell? ⟨B, 0, none⟩ = some (.slice a1 bs.length cap1) := by rw [cell_of_row w2 B 0 _ _ _ hB2]; rfl
  have d1 := frozen_of_row w2 B 0 _ _ hB2
  clear c0 c1 hown1 hg2
  go_wp2_with (fail)
  go_end0
  refine ⟨rfl, ⟨a2, cap2, ?_, ?_⟩, (hb2.mono (by omega)).setCell (by simp) _⟩
  · rw [heap_setCell_same w2 B 0 _ _ _ hB2, List.length_append]; rfl
  · rw [List.length_append]
    exact ownsRow_setCell_below hown3 (a := ⟨B, 0, none⟩) (by simp) _
end Go.Proofs.Ytfdbdhknamkipaa
