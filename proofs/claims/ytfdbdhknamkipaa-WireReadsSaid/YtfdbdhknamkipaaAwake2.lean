import Derived.Test.YtfdbdhknamkipaaAwake
namespace Go.Proofs.Ytfdbdhknamkipaa
open Go.RowKit
theorem bytes_new (w : World) (vs : Array Value) (bs : List Nat) (t : TypeId) (d : Nat × Nat) (h : vs = (vals bs).toArray) : Bytes (w.alloc (.cells vs t d)) (some ⟨w.heap.size, 0, none⟩) bs := by
  subst h
  intro i hi
  refine ⟨w.heap.size, 0, rfl, ?_⟩
  rw [cell_of_row _ w.heap.size (0 + i) _ _ _ (heap_alloc_new _ _), Nat.zero_add]
  simp [vals, List.getD, hi]
theorem awake_any (w : World) :
    Calls Try.prog 9 #[] w fun e w' => e = .returned (.bool true) ∧ Below w.heap.size w w' := by
  have hen : En.enc 300 = [172, 2] := by decide +kernel
  have hmf : ∀ (fn : Fn) (first cap : Array Value) (w : World), (Instr.makeFunc fn first cap).run Try.prog w = .ok (.func fn first cap) w := fun _ _ _ _ => rfl
  go_enter Try.func9, Try.ntmps9
  go_wp2_with (fail)
  refine (newWriter_any _).mono ?_
  rintro e w1 ⟨rfl, hW, hb⟩
  go_wp2_with (fail)
  refine (wuint_any _ 300 [] (by decide) (by decide) _ hW).mono ?_
  rintro e w2 ⟨rfl, hW2, hb2⟩
  go_wp2_with (fail)
  rw [hen] at hW2
  refine (wbool_any _ true _ (by decide) _ hW2).mono ?_
  rintro e w3 ⟨rfl, hW3, hb3⟩
  go_wp2_with (fail)
  change WR w3 w.heap.size [172, 2, 1] 0 at hW3
  refine (done_ok _ [172, 2, 1] (by decide) _ hW3).mono ?_
  rintro e w4 ⟨a, cap, rfl, hown, hb4⟩
  obtain ⟨a', cap', hv, hby, hge⟩ := owned_bytes hown rfl
  simp only [Value.slice.injEq, true_and] at hv
  obtain ⟨rfl, rfl⟩ := hv
  have hnil : a = none → cap = 0 ∧ ([172, 2, 1] : List Nat) = [] := by
    intro ha
    subst ha
    rcases hown.2 with ⟨hv, h0⟩ | ⟨g, cap', cur, hv, _⟩
    · simp at hv
    · simp at hv
  have hB4 : Below w.heap.size w w4 := ((hb.trans hb2).trans hb3).trans (hb4.mono ((hb.trans hb2).trans hb3).size)
  have hs := hB4.size
  clear hW hW2 hW3 hb hb2 hb3 hb4 hown hge
  go_wp2_with (fail)
  refine (same_any a _ cap 3 [172, 2, 1] [172, 2, 1] true (by decide) _ (hby.below ((Below.refl _ _).alloc (Nat.le_refl _) _)) (bytes_new _ _ _ _ _ rfl) (by decide)).mono ?_
  rintro e w5 ⟨rfl, m, rfl⟩
  go_wp2_with (fail)
  refine (newReader_any a cap [172, 2, 1] (by decide) _ ((hby.below ((Below.refl _ _).alloc (Nat.le_refl _) _)).drewN m) hnil).mono ?_
  rintro e w6 ⟨R, a6, cap6, rfl, hR, hb6, hR6, _⟩
  have hB6 : Below w.heap.size w w6 := (below_drewN (hB4.alloc hs _) m).trans (hb6.mono (by simp; omega))
  clear hb6 hby hnil
  go_wp2_with (fail)
  refine (rUint_any R a6 cap6 [172, 2, 1] 0 0 _ hR (by decide)).mono ?_
  rintro e w7 ⟨hg7, hp⟩
  rw [show En.num (List.drop 0 [172, 2, 1]) = some (300, 2) by decide +kernel] at hp
  obtain ⟨rfl, hR7⟩ := hp
  go_wp2_with (fail)
  refine (rBool_any R a6 cap6 [172, 2, 1] 2 0 _ hR7).mono ?_
  rintro e w8 ⟨hg8, hp⟩
  rw [show boolAt [172, 2, 1] 2 = some true by decide +kernel] at hp
  obtain ⟨rfl, hR8⟩ := hp
  go_wp2_with (fail)
  refine (rEnd_ok R a6 cap6 [172, 2, 1] 3 2 _ hR8 rfl).mono ?_
  rintro e w9 ⟨rfl, m9, rfl⟩
  have hB9 : Below w.heap.size w (w8.drewN m9) := below_drewN (hB6.trans (below_g (g_trans hg7 hg8) (by simp at hR6; omega) hR.lt)) _
  clear hg7 hg8 hR hR7 hR8
  go_wp2_with (fail)
  refine (newReader_any _ 2 [128, 0] (by decide) _ (bytes_new _ _ [128, 0] _ _ rfl) (by simp)).mono ?_
  rintro e w10 ⟨S, a7, cap7, rfl, hS, hb10, hS10, _⟩
  have hB10 : Below w.heap.size w w10 := (hB9.alloc hB9.size _).trans (hb10.mono (by have := hB9.size; simp at *; omega))
  have hs9 := hB9.size
  have hS11 : w.heap.size ≤ S := by simp at hS10 hs9; omega
  clear hb10 hB6 hB9 hS10
  go_wp2_with (fail)
  refine (rUint_any S a7 cap7 [128, 0] 0 0 _ hS (by decide)).mono ?_
  rintro e w11 ⟨hg11, hp⟩
  rw [show En.num (List.drop 0 [128, 0]) = none by decide +kernel] at hp
  obtain ⟨rfl, hS2⟩ := hp
  go_wp2_with (fail)
  refine (rEnd_err S a7 cap7 [128, 0] 0 0 3 _ hS2 (by decide)).mono ?_
  rintro e w12 ⟨rfl, m12, rfl⟩
  have hB12 : Below w.heap.size w (w11.drewN m12) := below_drewN (hB10.trans (below_g hg11 hS11 hS.lt)) _
  clear hB10 hg11 hS hS2
  go_wp2_with (fail)
  refine (zigzag_any (-3) (by decide) (by decide) _).mono ?_
  rintro e w13 ⟨rfl, rfl⟩
  rw [show zig (-3) = 5 by decide +kernel]
  go_wp2_with (fail)
  refine (uintSize_any 300 (by decide) _).mono ?_
  rintro e w13 ⟨rfl, rfl⟩
  rw [show (En.enc 300).length = 2 by decide +kernel]
  go_wp2_with (fail)
  go_ret
  exact ⟨rfl, hB12⟩
end Go.Proofs.Ytfdbdhknamkipaa
