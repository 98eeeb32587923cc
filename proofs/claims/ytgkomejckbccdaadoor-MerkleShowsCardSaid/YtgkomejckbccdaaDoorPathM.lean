import Derived.Test.YtgkomejckbccdaaDoorPathA
namespace Go.Proofs.YtgkomejckbccdaaDoor
open Go.RowKit
theorem sliceSLH (a : Option Addr) (n cap lo hi : Nat) (h1 : lo ≤ hi) (h2 : hi ≤ cap) (W : World) :
    (Instr.slice 27 (.slice a n cap) (some (.int .i64 (lo : Int))) (some (.int .i64 (hi : Int))) none).run Tryd.prog W = .ok (.slice (if cap = lo then a else a.map fun x => x.add lo) (hi - lo) (cap - lo)) W := by
  have h := run_slice_lh W 27 a n cap (P := Tryd.prog) (by kernel_rfl) .i64 .i64 (lo : Int) (hi : Int) (by omega) (by omega) (by omega)
  rw [h]
  have e2 : (sizeOf (Tryd.prog.elem 27)).run Tryd.prog W = .ok 1 W := by kernel_rfl
  rw [e2]
  simp only [Result.andThen, sliced, Int.toNat_natCast, Nat.mul_one]
set_option maxRecDepth 100000 in
theorem pathfn_any (a : Option Addr) (n cap B f c : Nat) (ss : List ByteArray) (hS : Sm ss) (hbig : n ≤ 1000000000) (w : World) (hL : Laid w) (hB : w.cell? ⟨B, 0, none⟩ = some (.slice a n cap)) (hR : Hid (RdS w a n cap ss)) (h1 : 1 ≤ c) (hfc : f + c ≤ n) :
    Calls Tryd.prog 60 #[pt f c, .pointer (some ⟨B, 0, none⟩)] w fun e w' => e = .returned (.string (Mk.part ss f c)) ∧ Below w.heap.size w w' := by
  obtain ⟨h, hh⟩ : ∃ h, Hid (f + c = h) := ⟨_, rfl⟩
  obtain ⟨m, hm⟩ : ∃ m, Hid (n - f = m) := ⟨_, rfl⟩
  obtain ⟨c2, hc2⟩ : ∃ c2, Hid (cap - f = c2) := ⟨_, rfl⟩
  obtain ⟨a2, ha2⟩ : ∃ a2, Hid ((if cap = f then a else a.map fun x => x.add f) = a2) := ⟨_, rfl⟩
  have s1 : (f : Int) + (c : Int) = (h : Int) := by have := hh.out; omega
  have s2 : IntKind.i64.wrap (h : Int) = (h : Int) := by have := hh.out; exact IntWalk.i64_in _ (by omega)
  have sl := fun W => sliceSLH a n cap f h (by have := hh.out; omega) (by have := hh.out; have := hR.out.cap; omega) W
  rw [ha2.out, hc2.out, show h - f = c by have := hh.out; omega] at sl
  have hR2 := hidIt ((hR.out.drop hm.out hc2.out ha2.out).take (k := c) (by have := hm.out; omega))
  have y0 : (0 : Int) ≤ (f : Int) := by omega
  have y1 : (f : Int) ≤ (h : Int) := by have := hh.out; omega
  have hbA : Hid (Below w.heap.size w (w.alloc (.cells #[.int .i64 (f : Int), .int .i64 (c : Int)] 72))) := (Below.refl _ _).alloc (Nat.le_refl _) _
  have hB2 := (hbA.out.cell (p := ⟨B, 0, none⟩) (bytes_lt hB)).trans hB
  have hp := pt_row w f c
  have hp0 := hp.1
  have hp1 := hp.2
  clear hp hR hh hm hc2 ha2 hB
  unfold pt
  go_enter Tryd.func60, Tryd.ntmps60
  go_wp2_with (fail)
  refine (root_rec c _ (Mk.part ss f c) a2 c c2 _ rfl (Nat.le_refl _) (by omega) ((hS.drop f).take c) (hL.below hbA.out hL.two) (hR2.out.below hbA.out)).mono ?_
  rintro e w1 ⟨rfl, hb1⟩
  go_wp2_with (fail)
  go_ret
  exact ⟨rfl, below_then hbA.out hb1⟩
set_option maxRecDepth 100000 in
theorem path_bad (a : Option Addr) (n cap : Nat) (i : Int) (hi : i < 0 ∨ (n : Int) ≤ i) (w : World) :
    Calls Tryd.prog 24 #[.slice a n cap, .int .i64 i] w fun e w' => e = .returned (.tuple #[.slice none 0 0, .int .i64 1]) ∧ Below w.heap.size w w' := by
  have hbA : Below w.heap.size w (w.alloc (.cells #[.slice a n cap] 27)) := (Below.refl _ _).alloc (Nat.le_refl _) _
  by_cases h0 : i < 0
  · go_enter Tryd.func24, Tryd.ntmps24
    go_wp2_with (fail)
    go_ret2
    exact ⟨rfl, hbA⟩
  · have h1 : (n : Int) ≤ i := by omega
    clear hi
    go_enter Tryd.func24, Tryd.ntmps24
    go_wp2_with (fail)
    go_ret2
    exact ⟨rfl, hbA⟩
set_option maxRecDepth 100000 in
theorem path_good (a : Option Addr) (n cap i : Nat) (ss P : List ByteArray) (hP : Hid (Mk.pathL ss i = P)) (hi : i < n) (hS : Sm ss) (hbig : n ≤ 1000000000) (w : World) (hL : Laid w) (hR : Hid (RdS w a n cap ss)) :
    Calls Tryd.prog 24 #[.slice a n cap, .int .i64 (i : Int)] w fun e w' => (∃ v, e = .returned (.tuple #[v, .int .i64 0]) ∧ w'.ownsRow w.heap.size 9 1 v P.length (svals P)) ∧ Below w.heap.size w w' := by
  have h0 : ¬ (i : Int) < 0 := by omega
  have h1 : ¬ (n : Int) ≤ (i : Int) := by omega
  have hbA : Hid (Below w.heap.size w (w.alloc (.cells #[.slice a n cap] 27))) := (Below.refl _ _).alloc (Nat.le_refl _) _
  have hsz : Hid (w.heap.size ≤ (w.alloc (.cells #[.slice a n cap] 27)).heap.size) := hbA.out.size
  have hcell : Hid ((w.alloc (.cells #[.slice a n cap] 27)).cell? ⟨w.heap.size, 0, none⟩ = some (.slice a n cap)) := by show _ = _; rw [cell_of_row _ _ _ _ _ _ (heap_alloc_new w _)]; rfl
  have hF : Hid (FnIsA (w.alloc (.cells #[.slice a n cap] 27)) w.heap.size (Mk.part ss) n) := fun f c W hW h1 h2 =>
    pathfn_any a n cap w.heap.size f c ss hS hbig W (hL.below (below_then hbA.out hW) hL.two) ((hW.cell (p := ⟨w.heap.size, 0, none⟩) (bytes_lt hcell.out)).trans hcell.out) (hR.out.below (below_then hbA.out hW)) h1 h2
  have hl := hidIt hR.out.len
  clear hR hcell
  go_enter Tryd.func24, Tryd.ntmps24
  go_wp2_with (fail)
  refine (path_recA _ w.heap.size n (Mk.part ss) hF hbig n 0 n i P _ (by show _ = _; rw [← hP.out, hl.out]; rfl) (Nat.le_refl _) (by omega) hi (by omega) (Below.refl _ _)).mono ?_
  rintro e w1 ⟨⟨v, rfl, hown, _⟩, hb1⟩
  have ho := hidIt (own_mono hown hsz.out)
  have hb := hidIt (below_then hbA.out hb1)
  clear hown hb1 hF
  go_wp2_with (fail)
  go_ret2
  exact ⟨⟨v, rfl, ho.out⟩, hb.out⟩
end Go.Proofs.YtgkomejckbccdaaDoor
