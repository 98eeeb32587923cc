import Derived.Test.YtegfbmekpmdcaaaDoorSumM
namespace Go.Proofs.YtegfbmekpmdcaaaDoor
open Go.RowKit
theorem SR.grown_new {w w1 w2 : World} {g : Nat} (hb : Below w.heap.size w w1) (hg : w1.grownBy w2 (some g)) (h : w.heap.size ≤ g) : Below w.heap.size w w2 := hb.grown hg hb.size (fun q hq => by cases hq; exact h)
theorem sum_any (a : Option Addr) (cap : Nat) (xs : List Nat) (hx : ∀ x ∈ xs, x < 256) (hbig : xs.length ≤ 140737488355000) (hcap : xs.length ≤ cap) (w : World) (hL : Laid w) (h : Bytes w a xs) (hne : 0 < xs.length → ∀ x, a = some x → x.block < w.heap.size) :
    Calls Tryd.prog 64 #[.slice a xs.length cap] w fun e w' => e = .returned (.string (str (Sh.sum xs))) ∧ Below w.heap.size w w' := by
  go_enter Tryd.func64, Tryd.ntmps64
  go_wp2_with (fail)
  refine (new_any _ hL).mono ?_
  rintro e w1 ⟨rfl, hs1, hb1⟩
  have L1 := hL.below hb1 hL.two
  have y1 := h.below hb1
  go_wp2_with (fail)
  refine (smWrite_any w.heap.size [] a cap xs hx (by simp; omega) hcap _ L1 hs1 y1 (fun h0 x hx => Nat.ne_of_lt (hne h0 x hx))).mono ?_
  rintro e w2 ⟨rfl, hs2, hg2⟩
  rw [List.nil_append] at hs2
  have hb2 := SR.grown_new hb1 hg2 (Nat.le_refl _)
  have L2 := hL.below hb2 hL.two
  go_wp2_with (fail)
  refine (smSum_any w.heap.size xs hbig _ L2 hs2).mono ?_
  rintro e w3 ⟨rfl, hb3⟩
  go_wp2_with (fail)
  go_ret
  exact ⟨rfl, below_then hb2 hb3⟩
theorem sum_at (a : Option Addr) (n cap : Nat) (xs : List Nat) (hn : n = xs.length) (hx : ∀ x ∈ xs, x < 256) (hbig : xs.length ≤ 140737488355000) (hcap : xs.length ≤ cap) (w : World) (hL : Laid w) (h : Bytes w a xs) (hne : 0 < xs.length → ∀ x, a = some x → x.block < w.heap.size) :
    Calls Tryd.prog 64 #[.slice a n cap] w fun e w' => e = .returned (.string (str (Sh.sum xs))) ∧ Below w.heap.size w w' := by
  subst hn; exact sum_any a cap xs hx hbig hcap w hL h hne
/-- a slice of strings -/
def Strs (w : World) (a : Option Addr) (ss : List ByteArray) : Prop := ∀ i, i < ss.length → ∃ b off, a = some ⟨b, off, none⟩ ∧ w.cell? ⟨b, off + i, none⟩ = some (.string (ss.getD i ByteArray.empty))
theorem Strs.below {w wr : World} {a : Option Addr} {ss : List ByteArray} (h : Strs w a ss) (hb : Below w.heap.size w wr) : Strs wr a ss := by
  intro i hi
  obtain ⟨b, off, h2, h3⟩ := h i hi
  exact ⟨b, off, h2, (hb.cell (p := ⟨b, off + i, none⟩) (bytes_lt h3)).trans h3⟩
def cat (ss : List ByteArray) : List Nat := (ss.map ofStr).flatten
theorem cat_snoc (ss : List ByteArray) (k : Nat) (h : k < ss.length) : cat (ss.take (k + 1)) = cat (ss.take k) ++ ofStr (ss.getD k ByteArray.empty) := by
  unfold cat
  rw [List.take_succ_eq_append_getElem h, List.map_append, List.flatten_append]
  simp [List.getD, h]
theorem cat_le (ss : List ByteArray) (k : Nat) : (cat (ss.take k)).length ≤ (cat ss).length := by
  unfold cat
  conv => rhs; rw [← List.take_append_drop k ss, List.map_append, List.flatten_append, List.length_append]
  omega
theorem join_any (a : Option Addr) (cap : Nat) (ss : List ByteArray) (hbig : (cat ss).length ≤ 140737488355000) (hlen : ss.length ≤ 140737488355328) (w : World) (hL : Laid w) (h : Strs w a ss) :
    Calls Tryd.prog 71 #[.slice a ss.length cap] w fun e w' => e = .returned (.string (str (Sh.sum (cat ss)))) ∧ Below w.heap.size w w' := by
  go_enter Tryd.func71, Tryd.ntmps71
  go_wp2_with (fail)
  refine (new_any _ hL).mono ?_
  rintro e w1 ⟨rfl, hs1, hb1⟩
  go_wp2_with (fail)
  go_loopw [9, 5] (fun i _ wr => ∃ k : Nat, k ≤ ss.length ∧ i = .int .i64 k ∧ SR wr w.heap.size (cat (ss.take k)) ∧ Below w.heap.size w wr) (fun i _ _ => ss.length - (intOf i).toNat)
  case atStart => exact ⟨0, by omega, rfl, hs1, hb1⟩
  case round =>
    obtain ⟨k, hk, rfl, hs, hb⟩ := hrel
    by_cases hlt : k < ss.length
    · obtain ⟨b, off, rfl, hc⟩ := h.below hb k hlt
      have Lr := hL.below hb hL.two
      have hsn := hidIt (cat_snoc ss k hlt)
      have hle := hidIt (cat_le ss (k + 1))
      obtain ⟨s, hs0⟩ : ∃ s, Hid (ss.getD k ByteArray.empty = s) := ⟨_, rfl⟩
      rw [hs0.out] at hc
      rw [hs0.out] at hsn
      clear h
      go_wp2_with (fail)
      refine (writes_any w.heap.size (cat (ss.take k)) s (ofStr s) rfl (by have := hle.out; rw [hsn.out, List.length_append] at this; omega) _ Lr hs).mono ?_
      rintro e w2 ⟨rfl, hs2, hg2⟩
      rw [← hsn.out] at hs2
      have hb2 := SR.grown_new hb hg2 (Nat.le_refl _)
      clear hs hb Lr
      go_wp2_with (fail)
      go_roundw
      case rel => exact ⟨k + 1, by omega, by go_num, hs2, hb2⟩
      case measure => simp [intOf]; omega
    · have e : ss.take k = ss := List.take_of_length_le (by omega)
      rw [e] at hs
      have L2 := hL.below hb hL.two
      clear e
      go_wp2_with (fail)
      refine (smSum_any w.heap.size (cat ss) hbig _ L2 hs).mono ?_
      rintro e w3 ⟨rfl, hb3⟩
      go_wp2_with (fail)
      go_ret
      exact ⟨rfl, below_then hb hb3⟩
end Go.Proofs.YtegfbmekpmdcaaaDoor
