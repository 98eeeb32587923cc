import Derived.Test.YtfdbdhknamkipaaCopies1
namespace Go.Proofs.Ytfdbdhknamkipaa
open Go.RowKit
theorem WRd.below {w w' : World} {B : Nat} {d : Option Nat} {bs : List Nat} {err : Nat} (h : WRd w B d bs err) (hb : Below w.heap.size w w') : WRd w' B d bs err := by
  have hlt := h.wr.lt
  obtain ⟨a, cap, h1, h2, h3⟩ := h
  exact ⟨a, cap, (hb.block B hlt).trans h1, h2.kept (g_below (r := none) hb) (by cases (Value.slice a bs.length cap).ownBlock with | none => exact .inl rfl | some q => exact .inr (by simp)), h3⟩
theorem wcount_neg (B : Nat) (bs : List Nat) (w : World) (h : WR w B bs 0) :
    Calls Try.prog 44 #[.pointer (some ⟨B, 0, none⟩), .int .i64 (-1)] w fun e w' => e = .returned (.tuple #[]) ∧ WR w' B bs 1 ∧ Below B w w' := by
  obtain ⟨a, cap, hB, hown⟩ := h
  have c1 : w.cell? ⟨B, 1, none⟩ = some (.int .i64 0) := by rw [cell_of_row w B 1 _ _ _ hB]; rfl
  have d1 := frozen_of_row w B 1 _ _ hB
  go_enter Try.func44, Try.ntmps44
  go_wp2_with (fail)
  go_end0
  refine ⟨rfl, ⟨a, cap, ?_, ?_⟩, (Below.refl _ _).setCell (by simp) _⟩
  · rw [heap_setCell_same w B 1 _ _ _ hB]; rfl
  · exact ownsRow_setCell_below hown (a := ⟨B, 1, none⟩) (by simp) _
theorem wcount_err (B err : Nat) (n : Int) (bs : List Nat) (he : err ≠ 0) (w : World) (h : WR w B bs err) :
    Calls Try.prog 44 #[.pointer (some ⟨B, 0, none⟩), .int .i64 n] w fun e w' => e = .returned (.tuple #[]) ∧ w = w' := by
  obtain ⟨a, cap, hB, hown⟩ := h
  have c1 : w.cell? ⟨B, 1, none⟩ = some (.int .i64 err) := by rw [cell_of_row w B 1 _ _ _ hB]; rfl
  have hne : ((err : Int) != 0) = true := by simp; omega
  go_enter Try.func44, Try.ntmps44
  go_wp2_with (fail)
  go_end0
  exact ⟨rfl, rfl⟩
theorem wbytes_err (B err : Nat) (a : Option Addr) (n cap : Nat) (hn : n < 9223372036854775807) (bs : List Nat) (he : err ≠ 0) (w : World) (h : WR w B bs err) :
    Calls Try.prog 41 #[.pointer (some ⟨B, 0, none⟩), .slice a n cap] w fun e w' => e = .returned (.tuple #[]) ∧ w = w' := by
  have hw : Calls Try.prog 64 #[.pointer (some ⟨B, 0, none⟩), .slice a n cap] w fun e w' => e = .returned (.tuple #[]) ∧ w = w' := by
    have h2 := h
    obtain ⟨a1, cap1, hB, hown⟩ := h
    have c1 : w.cell? ⟨B, 1, none⟩ = some (.int .i64 err) := by rw [cell_of_row w B 1 _ _ _ hB]; rfl
    have hne : ((err : Int) == 0) = false := by simp; omega
    have hwr : IntKind.u64.wrap (n : Int) = (n : Int) := by rw [IntKind.wrap_u64]; omega
    go_enter Try.func64, Try.ntmps64
    go_wp2_with (fail)
    refine (wuint_err B n err bs he _ h2).mono ?_
    rintro e w1 ⟨rfl, rfl⟩
    go_wp2_with (fail)
    go_end0
    exact ⟨rfl, rfl⟩
  go_enter Try.func41, Try.ntmps41
  go_wp2_with (fail)
  refine hw.mono ?_
  rintro e w1 ⟨rfl, rfl⟩
  go_wp2_with (fail)
  go_end0
  exact ⟨rfl, rfl⟩
/-- a writer with so many bytes, or one that has failed -/
def WS (w : World) (B : Nat) (failed : Bool) (total : Nat) : Prop := ∃ zs, WR w B zs (if failed then 1 else 0) ∧ (failed = false → zs.length = total)
theorem WS.lt {w : World} {B total : Nat} {f : Bool} (h : WS w B f total) : B < w.heap.size := by obtain ⟨zs, h, _⟩ := h; exact h.lt
theorem WS.below {w w' : World} {B total : Nat} {f : Bool} (h : WS w B f total) (hb : Below w.heap.size w w') : WS w' B f total := by
  obtain ⟨zs, h1, h2⟩ := h; exact ⟨zs, h1.below hb, h2⟩
theorem wcountS (B total : Nat) (f : Bool) (w : World) (h : WS w B f total) :
    Calls Try.prog 44 #[.pointer (some ⟨B, 0, none⟩), .int .i64 (-1)] w fun e w' => e = .returned (.tuple #[]) ∧ WS w' B true total ∧ Below B w w' := by
  obtain ⟨zs, h1, _⟩ := h
  cases f
  · refine (wcount_neg B zs w h1).mono ?_
    rintro e w' ⟨rfl, h2, hb⟩
    exact ⟨rfl, ⟨zs, h2, fun e => by cases e⟩, hb⟩
  · refine (wcount_err B 1 (-1) zs (by decide) w h1).mono ?_
    rintro e w' ⟨rfl, rfl⟩
    exact ⟨rfl, ⟨zs, h1, fun e => by cases e⟩, Below.refl _ _⟩
theorem wbytesS (B total n g : Nat) (f : Bool) (hn : n ≤ 100000) (ht : total ≤ 10000000) (w0 w : World) (h : WS w0 B f total) (hb : Below w0.heap.size w0 w) (hg : g = w0.heap.size) (hgl : g < w.heap.size) (hby : Bytes w (some ⟨g, 0, none⟩) (List.replicate n 0)) :
    Calls Try.prog 41 #[.pointer (some ⟨B, 0, none⟩), .slice (some ⟨g, 0, none⟩) n n] w fun e w' => e = .returned (.tuple #[]) ∧ WS w' B f (total + n + (En.enc n).length) ∧ Below B w w' := by
  have hlt := h.lt
  obtain ⟨zs, h1, hz⟩ := h
  cases f
  · have hz2 := hz rfl
    obtain ⟨d, hd⟩ := h1.d
    have hdl := hd.dlt
    have hc := wbytes_any B d (some ⟨g, 0, none⟩) n zs (List.replicate n 0) (by simp; omega) w (hd.below hb) hby (fun e => by cases e) (fun x hx => by
      cases hx
      exact ⟨by show g ≠ B; omega, fun e => by have := (hdl g e.symm).2; omega, hgl⟩)
    rw [List.length_replicate] at hc
    refine hc.mono ?_
    rintro e w' ⟨rfl, h2, hb2⟩
    exact ⟨rfl, ⟨_, h2, fun _ => by simp; omega⟩, hb2⟩
  · refine (wbytes_err B 1 _ n n (by omega) zs (by decide) w (h1.below hb)).mono ?_
    rintro e w' ⟨rfl, rfl⟩
    exact ⟨rfl, ⟨zs, h1.below hb, fun e => by cases e⟩, Below.refl _ _⟩
theorem made_zero (n : Nat) : (madeCells (Value.int .u8 0).cells (n * 1)).toList = vals (List.replicate n 0) := by
  apply List.ext_getElem?
  intro i
  by_cases h : i < n
  · simp [madeCells, Value.cells, vals, h, Nat.mod_one]
  · rw [List.getElem?_eq_none (by simp [size_madeCells]; omega), List.getElem?_eq_none (by simp [vals]; omega)]
end Go.Proofs.Ytfdbdhknamkipaa
