import Derived.Test.YtfdbdhknamkipaaBase
import Derived.Deep.Cut
namespace Go.Proofs.Ytfdbdhknamkipaa
open Go.RowKit
/-- block B is a writer with the bytes bs and this error -/
def WR (w : World) (B : Nat) (bs : List Nat) (err : Nat) : Prop :=
  ∃ a cap, w.heap[B]? = some (.cells #[.slice a bs.length cap, .int .i64 err] 67 (0, 0)) ∧ w.ownsRow (B + 1) 5 1 (.slice a bs.length cap) bs.length (vals bs)
theorem extend_at (v : Value) (base n L : Nat) (bs : List Nat) (hL : L = bs.length) (hn : n < 18446744073709551616) (hbig : bs.length + 10 ≤ 140737488355328) (w : World) (hb0 : base ≤ w.heap.size) (hown : w.ownsRow base 5 1 v L (vals bs)) :
    Calls Try.prog 45 #[v, .int .u64 n] w fun e w' => ∃ a cap, e = .returned (.slice a (bs ++ En.enc n).length cap) ∧ w'.ownsRow base 5 1 (.slice a (bs ++ En.enc n).length cap) (bs ++ En.enc n).length (vals (bs ++ En.enc n)) ∧ Below base w w' := by
  subst hL
  refine (extend_any v bs.length base n bs hn rfl hbig w hb0 hown).mono ?_
  rintro e w' ⟨v', rfl, ho, hb⟩
  obtain ⟨a, cap, rfl, _, _⟩ := owned_bytes ho rfl
  exact ⟨a, cap, rfl, ho, hb⟩
theorem newWriter_any (w : World) :
    Calls Try.prog 21 #[] w fun e w' => e = .returned (.pointer (some ⟨w.heap.size, 0, none⟩)) ∧ WR w' w.heap.size [] 0 ∧ Below w.heap.size w w' := by
  go_enter Try.func21, Try.ntmps21
  go_wp2
  go_ret
  exact ⟨rfl, ⟨none, 0, heap_alloc_new _ _, World.ownsRow_nil _ _ _ _⟩, (Below.refl _ _).alloc (Nat.le_refl _) _⟩
theorem WR.lt {w : World} {B : Nat} {bs : List Nat} {err : Nat} (h : WR w B bs err) : B < w.heap.size := by
  obtain ⟨a, cap, h, _⟩ := h
  exact (Array.getElem?_eq_some_iff.1 h).1
theorem wuint_any (B n : Nat) (bs : List Nat) (hn : n < 18446744073709551616) (hbig : bs.length + 10 ≤ 140737488355328) (w : World) (h : WR w B bs 0) :
    Calls Try.prog 25 #[.pointer (some ⟨B, 0, none⟩), .int .u64 n] w fun e w' => e = .returned (.tuple #[]) ∧ WR w' B (bs ++ En.enc n) 0 ∧ Below B w w' := by
  have hlt := h.lt
  obtain ⟨a, cap, hB, hown⟩ := h
  have c0 : w.cell? ⟨B, 0, none⟩ = some (.slice a bs.length cap) := by rw [cell_of_row w B 0 _ _ _ hB]; rfl
  have c1 : w.cell? ⟨B, 1, none⟩ = some (.int .i64 0) := by rw [cell_of_row w B 1 _ _ _ hB]; rfl
  go_enter Try.func25, Try.ntmps25
  go_wp2_with (fail)
  refine (extend_at _ (B + 1) n _ bs rfl hn hbig _ (by omega) hown).mono ?_
  rintro e w1 ⟨a', cap', rfl, hown1, hb1⟩
  have hB1 : w1.heap[B]? = some (.cells #[.slice a bs.length cap, .int .i64 0] 67 (0, 0)) := (hb1.block B (by omega)).trans hB
  have d0 : w1.cell? ⟨B, 0, none⟩ = some (.slice a bs.length cap) := by rw [cell_of_row w1 B 0 _ _ _ hB1]; rfl
  have d1 := frozen_of_row w1 B 0 _ _ hB1
  clear c0 c1
  go_wp2_with (fail)
  go_end0
  refine ⟨rfl, ⟨a', cap', ?_, ?_⟩, (hb1.mono (by omega)).setCell (by simp) _⟩
  · rw [List.length_append, heap_setCell_same w1 B 0 _ _ _ hB1]; rfl
  · have := ownsRow_setCell_below hown1 (a := ⟨B, 0, none⟩) (by simp) (Value.slice a' (bs.length + (En.enc n).length) cap')
    rw [List.length_append] at *
    exact this
theorem wuint_err (B n err : Nat) (bs : List Nat) (he : err ≠ 0) (w : World) (h : WR w B bs err) :
    Calls Try.prog 25 #[.pointer (some ⟨B, 0, none⟩), .int .u64 n] w fun e w' => e = .returned (.tuple #[]) ∧ w = w' := by
  obtain ⟨a, cap, hB, hown⟩ := h
  have c1 : w.cell? ⟨B, 1, none⟩ = some (.int .i64 err) := by rw [cell_of_row w B 1 _ _ _ hB]; rfl
  have hne : ((err : Int) == 0) = false := by simp; omega
  go_enter Try.func25, Try.ntmps25
  go_wp2_with (fail)
  go_end0
  exact ⟨rfl, rfl⟩
theorem wbool_any (B : Nat) (b : Bool) (bs : List Nat) (hbig : bs.length + 10 ≤ 140737488355328) (w : World) (h : WR w B bs 0) :
    Calls Try.prog 26 #[.pointer (some ⟨B, 0, none⟩), .bool b] w fun e w' => e = .returned (.tuple #[]) ∧ WR w' B (bs ++ [if b then 1 else 0]) 0 ∧ Below B w w' := by
  cases b
  · go_enter Try.func26, Try.ntmps26
    go_wp2_with (fail)
    refine (wuint_any B 0 bs (by decide) hbig _ h).mono ?_
    rintro e w1 ⟨rfl, h1, hb1⟩
    go_wp2_with (fail)
    go_end0
    exact ⟨rfl, h1, hb1⟩
  · go_enter Try.func26, Try.ntmps26
    go_wp2_with (fail)
    refine (wuint_any B 1 bs (by decide) hbig _ h).mono ?_
    rintro e w1 ⟨rfl, h1, hb1⟩
    go_wp2_with (fail)
    go_end0
    exact ⟨rfl, h1, hb1⟩
theorem wbool_err (B err : Nat) (b : Bool) (bs : List Nat) (he : err ≠ 0) (w : World) (h : WR w B bs err) :
    Calls Try.prog 26 #[.pointer (some ⟨B, 0, none⟩), .bool b] w fun e w' => e = .returned (.tuple #[]) ∧ w = w' := by
  cases b
  · go_enter Try.func26, Try.ntmps26
    go_wp2_with (fail)
    refine (wuint_err B 0 err bs he _ h).mono ?_
    rintro e w1 ⟨rfl, rfl⟩
    go_wp2_with (fail)
    go_end0
    exact ⟨rfl, rfl⟩
  · go_enter Try.func26, Try.ntmps26
    go_wp2_with (fail)
    refine (wuint_err B 1 err bs he _ h).mono ?_
    rintro e w1 ⟨rfl, rfl⟩
    go_wp2_with (fail)
    go_end0
    exact ⟨rfl, rfl⟩
/-- slices.Clone of bytes: nil stays nil, else a new slice with the same bytes -/
theorem clone_any (a : Option Addr) (cap base : Nat) (bs : List Nat) (hbig : bs.length ≤ 140737488355328) (w : World) (h : Bytes w a bs) (hnil : a = none → cap = 0 ∧ bs = []) (hbase : base ≤ w.heap.size) :
    Calls Try.prog 33 #[.slice a bs.length cap] w fun e w' => ∃ v, e = .returned v ∧ w'.ownsRow base 5 1 v bs.length (vals bs) ∧ Below w.heap.size w w' := by
  obtain ⟨i0, hi, hz0, hz1, hz2⟩ := info_parts info5
  match a, h, hnil with
  | none, _, hnil =>
    obtain ⟨rfl, rfl⟩ := hnil rfl
    have hq : (binOp .eql 25 (.slice none 0 0) (.slice none 0 0)).run Try.prog w = .ok (.bool true) w := Lib.run_eql_slice_nil (P := Try.prog) w 25 5 none 0 0 0 0 Try.underlying25
    go_enter Try.func33, Try.ntmps33
    go_wp2_with (fail)
    go_ret
    exact ⟨_, rfl, World.ownsRow_nil _ _ _ _, Below.refl _ _⟩
  | some x, h, _ =>
    have hq : (binOp .eql 25 (.slice (some x) bs.length cap) (.slice none 0 0)).run Try.prog w = .ok (.bool false) w := Lib.run_eql_slice_nil (P := Try.prog) w 25 5 (some x) bs.length cap 0 0 Try.underlying25
    go_enter Try.func33, Try.ntmps33
    have hown : (w.alloc (.cells #[] 5)).ownsRow base 5 1 (.slice (some ⟨w.heap.size, 0, none⟩) 0 0) 0 [] := World.ownsRow_made w #[] 0 hbase (by unfold maxLen; omega) rfl
    go_wp2_with (at_builtin; refine wpList_append_own _ rfl _ _ 25 rfl base 5 i0 (.int .u8 0) 1 1 Try.underlying25 hi hz0 hz1 hz2 rfl (by decide) _ _ _ rfl hown x bs.length cap (vals bs) rfl ?c1 ?c2 ?c3 ?c4 ?c5 ?c6 ?_)
    case c1 => simp [vals]
    case c2 =>
      intro j u hj
      by_cases hjl : j < bs.length
      · obtain ⟨b, off, hx, hc⟩ := h j hjl
        simp only [Option.some.injEq] at hx
        subst hx
        have hu : u = .int .u8 ((bs.getD j 0 : Nat) : Int) := by
          have : (vals bs)[j]? = some (.int .u8 ((bs.getD j 0 : Nat) : Int)) := by simp [vals, List.getD, hjl]
          rw [this] at hj; exact (Option.some.inj hj).symm
        subst hu
        have hadd : (⟨b, off, none⟩ : Addr).add j = ⟨b, off + j, none⟩ := by unfold Addr.add; split <;> simp_all
        rw [hadd]
        exact ((Below.refl w.heap.size w).alloc (Nat.le_refl _) _).cell (p := ⟨b, off + j, none⟩) (bytes_lt hc) |>.trans hc
      · rw [List.getElem?_eq_none (by simp [vals]; omega)] at hj; cases hj
    case c3 =>
      intro u hu
      simp only [vals, List.mem_map] at hu
      obtain ⟨b, _, rfl⟩ := hu
      rfl
    case c4 => unfold maxLen; omega
    case c5 => omega
    case c6 => simp; omega
    intro v' w3 hown3 hg3 _
    have hb3 := ((Below.refl w.heap.size w).alloc (Nat.le_refl _) _).grown hg3 (by simp) (fun q hq => by simp [Value.ownBlock] at hq; omega)
    have hown4 : w3.ownsRow base 5 1 v' bs.length (vals bs) := by simpa using hown3
    clear hown hg3 hown3
    go_wp2
    go_ret
    exact ⟨_, rfl, hown4, hb3⟩
theorem done_ok (B : Nat) (bs : List Nat) (hbs : bs.length ≤ 1048576) (w : World) (h : WR w B bs 0) :
    Calls Try.prog 23 #[.pointer (some ⟨B, 0, none⟩)] w fun e w' => ∃ a cap, e = .returned (.tuple #[.slice a bs.length cap, .int .i64 0]) ∧ w'.ownsRow w.heap.size 5 1 (.slice a bs.length cap) bs.length (vals bs) ∧ Below w.heap.size w w' := by
  have hlt := h.lt
  obtain ⟨a, cap, hB, hown⟩ := h
  obtain ⟨a', cap', hv, hby, _⟩ := owned_bytes hown rfl
  simp only [Value.slice.injEq, true_and] at hv
  obtain ⟨rfl, rfl⟩ := hv
  have hnil : a = none → cap = 0 ∧ bs = [] := by
    intro ha
    subst ha
    rcases hown.2 with ⟨hv, h0⟩ | ⟨g, cap', cur, hv, _⟩
    · simp at hv; exact ⟨hv.2, hv.1⟩
    · simp at hv
  have c0 : w.cell? ⟨B, 0, none⟩ = some (.slice a bs.length cap) := by rw [cell_of_row w B 0 _ _ _ hB]; rfl
  have c1 : w.cell? ⟨B, 1, none⟩ = some (.int .i64 0) := by rw [cell_of_row w B 1 _ _ _ hB]; rfl
  have hz : ¬ (1048576 : Int) < (bs.length : Int) := by omega
  clear hB hown
  go_enter Try.func23, Try.ntmps23
  go_wp2_with (fail)
  refine (clone_any a cap w.heap.size bs (by omega) _ hby hnil (Nat.le_refl _)).mono ?_
  rintro e w1 ⟨v1, rfl, hown1, hb1⟩
  obtain ⟨a1, cap1, rfl, _, _⟩ := owned_bytes hown1 rfl
  go_wp2_with (fail)
  go_ret2
  exact ⟨_, _, rfl, hown1, hb1⟩
theorem done_large (B : Nat) (bs : List Nat) (hbs : 1048576 < bs.length) (w : World) (h : WR w B bs 0) :
    Calls Try.prog 23 #[.pointer (some ⟨B, 0, none⟩)] w fun e w' => e = .returned (.tuple #[.slice none 0 0, .int .i64 2]) ∧ w = w' := by
  obtain ⟨a, cap, hB, hown⟩ := h
  have c0 : w.cell? ⟨B, 0, none⟩ = some (.slice a bs.length cap) := by rw [cell_of_row w B 0 _ _ _ hB]; rfl
  have c1 : w.cell? ⟨B, 1, none⟩ = some (.int .i64 0) := by rw [cell_of_row w B 1 _ _ _ hB]; rfl
  have hz : (1048576 : Int) < (bs.length : Int) := by omega
  clear hB hown
  go_enter Try.func23, Try.ntmps23
  go_wp2_with (fail)
  go_ret2
  exact ⟨rfl, rfl⟩
theorem done_err (B err : Nat) (bs : List Nat) (he : err ≠ 0) (w : World) (h : WR w B bs err) :
    Calls Try.prog 23 #[.pointer (some ⟨B, 0, none⟩)] w fun e w' => e = .returned (.tuple #[.slice none 0 0, .int .i64 err]) ∧ ∃ m, w' = w.drewN m := by
  obtain ⟨a, cap, hB, hown⟩ := h
  have c1 : w.cell? ⟨B, 1, none⟩ = some (.int .i64 err) := by rw [cell_of_row w B 1 _ _ _ hB]; rfl
  have hz : ((err : Int) != 0) = true := by simp; omega
  clear hB hown
  go_enter Try.func23, Try.ntmps23
  go_wp2_with (fail)
  go_quiet (fail)
  go_wp2
  go_ret2
  exact ⟨rfl, _, rfl⟩
/-- block R is a reader of the bytes bs -/
structure RD (w : World) (R : Nat) (a : Option Addr) (cap : Nat) (bs : List Nat) (pos last err : Nat) : Prop where
  row : w.heap[R]? = some (.cells #[.slice a bs.length cap, .int .i64 pos, .int .i64 last, .int .i64 err] 59 (0, 0))
  bytes : Bytes w a bs
  ne : ∀ x, a = some x → x.block ≠ R
  le : pos ≤ bs.length
  lastle : last ≤ bs.length
  capge : bs.length ≤ cap
  capm : cap ≤ maxLen
theorem newReader_any (a0 : Option Addr) (cap0 : Nat) (bs : List Nat) (hbs : bs.length ≤ 140737488355328) (w : World) (h : Bytes w a0 bs) (hnil : a0 = none → cap0 = 0 ∧ bs = []) :
    Calls Try.prog 14 #[.slice a0 bs.length cap0] w fun e w' => ∃ R a cap, e = .returned (.pointer (some ⟨R, 0, none⟩)) ∧ RD w' R a cap bs 0 0 0 ∧ Below w.heap.size w w' ∧ w.heap.size ≤ R ∧ ∀ x, a = some x → w.heap.size ≤ x.block := by
  go_enter Try.func14, Try.ntmps14
  go_wp2_with (fail)
  refine (clone_any a0 cap0 w.heap.size bs hbs _ h hnil (Nat.le_refl _)).mono ?_
  rintro e w1 ⟨v1, rfl, hown1, hb1⟩
  obtain ⟨a1, cap1, rfl, hby1, hge⟩ := owned_bytes hown1 rfl
  go_wp2_with (fail)
  go_ret
  have hnew := (Below.refl w1.heap.size w1).alloc (Nat.le_refl _) (.cells #[.slice a1 bs.length cap1, .int .i64 0, .int .i64 0, .int .i64 0] 59)
  refine ⟨w1.heap.size, a1, cap1, rfl, ⟨heap_alloc_new _ _, hby1.below hnew, ?_, Nat.zero_le _, Nat.zero_le _, ?_, ?_⟩, hb1.alloc hb1.size _, hb1.size, hge⟩
  · intro x hx
    rcases hown1.2 with ⟨hv, _⟩ | ⟨g, cap', cur, hv, _, hg, _⟩
    · simp at hv; rw [hv.1] at hx; cases hx
    · simp at hv
      rw [hv.1] at hx; cases hx
      have := (Array.getElem?_eq_some_iff.1 hg).1
      show g ≠ _
      omega
  · rcases hown1.2 with ⟨hv, h0⟩ | ⟨g, cap', cur, hv, _, _, h1, _⟩
    · omega
    · simp at hv; omega
  · rcases hown1.2 with ⟨hv, h0⟩ | ⟨g, cap', cur, hv, _, _, h1, h2, _⟩
    · simp at hv; unfold maxLen; omega
    · simp at hv; omega
end Go.Proofs.Ytfdbdhknamkipaa
