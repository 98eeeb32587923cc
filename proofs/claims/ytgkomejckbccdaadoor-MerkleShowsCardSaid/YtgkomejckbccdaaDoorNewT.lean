import Derived.Test.YtgkomejckbccdaaDoorCon
namespace Go.Proofs.YtgkomejckbccdaaDoor
open Go.RowKit
def nilRow : Array Value := Array.replicate 21 (.slice none 0 0)
theorem builtTree : Tryd.prog.built 82 [] = some nilRow := by kernel_rfl
set_option maxRecDepth 100000 in
theorem newtree_any (w : World) :
    Calls Tryd.prog 31 #[] w fun e w' => e = .returned (.pointer (some ⟨w.heap.size, 0, none⟩)) ∧ Blk w' w.heap.size 82 nilRow ∧ Below w.heap.size w w' := by
  have hres : Hid (Blk (w.alloc (.cells nilRow 82)) w.heap.size 82 nilRow) := Blk.new _ _ _
  obtain ⟨nr, hnr⟩ : ∃ nr, Hid (nilRow = nr) := ⟨_, rfl⟩
  have hb := builtTree
  rw [hnr.out] at hres hb ⊢
  go_enter Tryd.func31, Tryd.ntmps31
  go_wp2_with (refine wpList_build_is rfl 82 _ rfl nr ?hb ?_)
  go_ret
  exact ⟨rfl, hres.out, (Below.refl _ _).alloc (Nat.le_refl _) _⟩
end Go.Proofs.YtgkomejckbccdaaDoor
