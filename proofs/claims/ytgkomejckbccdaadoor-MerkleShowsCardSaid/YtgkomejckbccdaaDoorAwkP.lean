import Derived.Test.YtgkomejckbccdaaDoorCon
namespace Go.Proofs.YtgkomejckbccdaaDoor
open Go.RowKit
theorem sumsB_of {ss : List ByteArray} (h : ∀ s ∈ ss, s.size = 32) : sumsB ss = true := sumsB_all.2 h
theorem sumsB_two {x z : ByteArray} (h1 : x.size = 32) (h2 : z.size = 32) : sumsB [x, z] = true := by simp [sumsB, h1, h2]
theorem pathL_sums {ls : List ByteArray} (h : ∀ s ∈ ls, s.size = 32) (q : Nat) : ∀ f c i, c ≤ q → ∀ s ∈ Mk.path (Mk.part ls) f c i, s.size = 32 := by
  induction q with
  | zero => intro f c i hc s hs; rw [Mk.path_one _ _ _ _ (by omega)] at hs; cases hs
  | succ q ih =>
    intro f c i hc s hs
    by_cases h2 : c < 2
    · rw [Mk.path_one _ _ _ _ h2] at hs; cases hs
    · have hl := Mk.spl_lt (n := c) (by omega)
      have hp := Mk.spl_pos c
      by_cases hi : i < Mk.spl c
      · rw [Mk.path_left _ _ _ _ (by omega) hi] at hs
        rcases List.mem_append.1 hs with h3 | h3
        · exact ih _ _ _ (by omega) s h3
        · rw [List.mem_singleton.1 h3]; exact Mk.part_sum h _ _
      · rw [Mk.path_right _ _ _ _ (by omega) hi] at hs
        rcases List.mem_append.1 hs with h3 | h3
        · exact ih _ _ _ (by omega) s h3
        · rw [List.mem_singleton.1 h3]; exact Mk.part_sum h _ _
theorem proofL_sums {ls : List ByteArray} (h : ∀ s ∈ ls, s.size = 32) (q : Nat) : ∀ f c m kn, c ≤ q → ∀ s ∈ Mk.proof (Mk.part ls) f c m kn, s.size = 32 := by
  induction q with
  | zero => intro f c m kn hc s hs
            rw [Mk.proof] at hs
            split at hs
            · split at hs
              · cases hs
              · rw [List.mem_singleton.1 hs]; exact Mk.part_sum h _ _
            · rw [dif_pos (by omega)] at hs; cases hs
  | succ q ih =>
    intro f c m kn hc s hs
    rw [Mk.proof] at hs
    split at hs
    · split at hs
      · cases hs
      · rw [List.mem_singleton.1 hs]; exact Mk.part_sum h _ _
    · by_cases h2 : c < 2
      · rw [dif_pos h2] at hs; cases hs
      · have hl := Mk.spl_lt (n := c) (by omega)
        have hp := Mk.spl_pos c
        rw [dif_neg h2] at hs
        split at hs
        · rcases List.mem_append.1 hs with h3 | h3
          · exact ih _ _ _ _ (by omega) s h3
          · rw [List.mem_singleton.1 h3]; exact Mk.part_sum h _ _
        · rcases List.mem_append.1 hs with h3 | h3
          · exact ih _ _ _ _ (by omega) s h3
          · rw [List.mem_singleton.1 h3]; exact Mk.part_sum h _ _
theorem getD_sum {ls : List ByteArray} (h : ∀ s ∈ ls, s.size = 32) {i : Nat} (hi : i < ls.length) : (ls.getD i ByteArray.empty).size = 32 := by
  have := h ls[i] (List.getElem_mem hi)
  simpa [List.getD, hi] using this
/-- a path is accepted -/
theorem ver_path {ls : List ByteArray} (h : ∀ s ∈ ls, s.size = 32) {i : Nat} (hi : i < ls.length) : ver (ls.getD i ByteArray.empty) (i : Int) (ls.length : Int) (Mk.pathL ls i) (Mk.root ls) = true := by
  have hu := Mk.path_up (Mk.nodes_part ls) (ls.getD i ByteArray.empty) ls.length 0 ls.length i (Nat.le_refl _) hi (by omega)
  rw [Nat.zero_add, Mk.part_one hi, Mk.part_all] at hu
  unfold ver Mk.pathL
  rw [if_pos (by omega), sumsB_of (pathL_sums h ls.length 0 ls.length i (Nat.le_refl _)), sumsB_two (getD_sum h hi) (Mk.root_sum h), Int.toNat_natCast, Int.toNat_natCast]
  rw [hu]
  simp
/-- a proof is accepted -/
theorem con_proof {ls : List ByteArray} (h : ∀ s ∈ ls, s.size = 32) {m : Nat} (h1 : 1 ≤ m) (hm : m ≤ ls.length) : con (m : Int) (ls.length : Int) (Mk.part ls 0 m) (Mk.root ls) (Mk.proofL ls m true) = true := by
  have hu := Mk.proof_both (Mk.nodes_part ls) true (Mk.part ls 0 m) ls.length 0 ls.length m true (Nat.le_refl _) h1 hm (by omega) (fun _ => rfl)
  rw [Mk.part_all] at hu
  unfold con Mk.proofL
  rw [if_pos (by omega), sumsB_of (proofL_sums h ls.length 0 ls.length m true (Nat.le_refl _)), sumsB_two (Mk.part_sum h _ _) (Mk.root_sum h), if_neg (by omega), Int.toNat_natCast, Int.toNat_natCast]
  rw [hu]
  simp
theorem spl3 : Mk.spl 3 = 2 := Mk.spl_eq (j := 1) (by decide) (by decide)
theorem spl2 : Mk.spl 2 = 1 := Mk.spl_eq (j := 0) (by decide) (by decide)
theorem root3 (a b c : ByteArray) : Mk.root [a, b, c] = Mk.node (Mk.node a b) c := by
  rw [Mk.root_more (by show 2 ≤ 3; decide)]
  show Mk.node (Mk.root (List.take (Mk.spl 3) [a, b, c])) (Mk.root (List.drop (Mk.spl 3) [a, b, c])) = _
  rw [spl3]
  show Mk.node (Mk.root [a, b]) (Mk.root [c]) = _
  rw [Mk.root_one, Mk.root_more (by show 2 ≤ 2; decide)]
  show Mk.node (Mk.node (Mk.root (List.take (Mk.spl 2) [a, b])) (Mk.root (List.drop (Mk.spl 2) [a, b]))) c = _
  rw [spl2]
  show Mk.node (Mk.node (Mk.root [a]) (Mk.root [b])) c = _
  rw [Mk.root_one, Mk.root_one]
theorem part2 (a b c : ByteArray) : Mk.part [a, b, c] 0 2 = Mk.node a b := by
  show Mk.root [a, b] = _
  rw [Mk.root_more (by show 2 ≤ 2; decide)]
  show Mk.node (Mk.root (List.take (Mk.spl 2) [a, b])) (Mk.root (List.drop (Mk.spl 2) [a, b])) = _
  rw [spl2]
  show Mk.node (Mk.root [a]) (Mk.root [b]) = _
  rw [Mk.root_one, Mk.root_one]
theorem path3 (a b c : ByteArray) : Mk.pathL [a, b, c] 1 = [a, c] := by
  have h1 : Mk.path (Mk.part [a, b, c]) 0 2 1 = [a] := by
    rw [Mk.path_right _ _ _ _ (by decide) (by rw [spl2]; decide), spl2, Mk.path_one _ _ _ _ (by decide)]
    show [Mk.root [a]] = _
    rw [Mk.root_one]
  show Mk.path (Mk.part [a, b, c]) 0 3 1 = _
  rw [Mk.path_left _ _ _ _ (by decide) (by rw [spl3]; decide), spl3, h1]
  show [a] ++ [Mk.root [c]] = _
  rw [Mk.root_one]; rfl
theorem proof3 (a b c : ByteArray) : Mk.proofL [a, b, c] 2 true = [c] := by
  show Mk.proof (Mk.part [a, b, c]) 0 3 2 true = _
  rw [Mk.proof_left _ _ _ _ _ (by decide) (by decide) (by rw [spl3]; decide), spl3, Mk.proof_known]
  show [Mk.root [c]] = _
  rw [Mk.root_one]
theorem str_inj {a b : List Nat} (ha : ∀ x ∈ a, x < 256) (hb : ∀ x ∈ b, x < 256) (h : str a = str b) : a = b := by rw [← ofStr_str a ha, ← ofStr_str b hb, h]
theorem leaf_ab : Mk.leaf [97] ≠ Mk.leaf [98] := fun h => by
  have h2 := str_inj (Sh.sum_lt _) (Sh.sum_lt _) h
  have h3 : Sh.sum [0, 97] ≠ Sh.sum [0, 98] := by decide +kernel
  exact h3 h2
end Go.Proofs.YtgkomejckbccdaaDoor
