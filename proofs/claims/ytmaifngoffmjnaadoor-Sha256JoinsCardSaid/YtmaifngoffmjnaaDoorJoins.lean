import Derived.Test.YtmaifngoffmjnaaDoorRefJoin
namespace Go.Proofs.YtmaifngoffmjnaaDoor
open Go.RowKit
theorem cat_small (ss : List ByteArray) (hm : ∀ s ∈ ss, s.size ≤ 140737488355328) (k : Nat) (hk : k ≤ 9) : (cat (ss.take k)).length ≤ k * 140737488355328 := by
  induction k with
  | zero => simp [cat]
  | succ k ih =>
    have h1 := ih (by omega)
    by_cases hl : k < ss.length
    · rw [cat_snoc ss k hl, List.length_append, ofStr_len]
      have : (ss.getD k ByteArray.empty).size ≤ 140737488355328 := by
        rw [List.getD_eq_getElem?_getD, List.getElem?_eq_getElem hl]; exact hm _ (List.getElem_mem _)
      omega
    · have e1 : ss.take (k + 1) = ss := List.take_of_length_le (by omega)
      have e2 : ss.take k = ss := List.take_of_length_le (by omega)
      rw [e2] at h1
      rw [e1]
      exact Nat.le_trans h1 (Nat.mul_le_mul_right _ (Nat.le_succ k))
set_option maxRecDepth 100000 in
set_option maxHeartbeats 2000000 in
theorem joins_walk (a : Option Addr) (cap : Nat) (ss : List ByteArray) (hlen : ss.length ≤ 140737488355328) (hm : ∀ s ∈ ss, s.size ≤ 140737488355328) (w : World) (hL : Laid w) (h : Strs w a ss) :
    Calls Tryd.prog 7 #[.slice a ss.length cap] w fun e w' => e = .returned (.bool true) ∧ Below w.heap.size w w' := by
  go_enter Tryd.func7, Tryd.ntmps7
  go_wp2_with (fail)
  go_loopw [4, 3] (fun i v wr => ∃ (k : Nat) (z : Int), k ≤ ss.length ∧ i = .int .i64 k ∧ v = .int .i64 z ∧ Hid (k ≤ 8 → z = ((cat (ss.take k)).length : Int)) ∧ Below w.heap.size w wr) (fun i _ _ => ss.length - (intOf i).toNat)
  case atStart => exact ⟨0, 0, by omega, rfl, rfl, fun _ => by simp [cat], Below.refl _ _⟩
  case round =>
    obtain ⟨k, z, hk, rfl, rfl, hz, hb⟩ := hrel
    by_cases hlt : k < ss.length
    · obtain ⟨b, off, rfl, hc⟩ := h.below hb k hlt
      have hsn := hidIt (cat_snoc ss k hlt)
      have hsm := hidIt (fun hk9 => cat_small ss hm (k + 1) hk9)
      obtain ⟨p, hp⟩ : ∃ p, Hid (ss.getD k ByteArray.empty = p) := ⟨_, rfl⟩
      rw [hp.out] at hc hsn
      obtain ⟨z2, hz2⟩ : ∃ z2, IntKind.i64.wrap (z + (p.size : Int)) = z2 := ⟨_, rfl⟩
      have hnext : Hid (k + 1 ≤ 8 → z2 = ((cat (ss.take (k + 1))).length : Int)) := by
        intro h8
        have h1 := hsm.out (by omega)
        rw [← hz2, hz.out (by omega), hsn.out, List.length_append, ofStr_len]
        rw [hsn.out, List.length_append, ofStr_len] at h1
        rw [IntWalk.i64_in _ (by omega)]
        omega
      have y0 : (0 : Int) ≤ (k : Int) := by omega
      have y1 : (k : Int) < (ss.length : Int) := by omega
      clear h
      go_wp2_with (fail)
      go_roundw
      case rel => exact ⟨k + 1, z2, by omega, by go_num, rfl, hnext, hb⟩
      case measure => simp [intOf]; omega
    · have e : ss.take k = ss := List.take_of_length_le (by omega)
      rw [e] at hz
      have hkl : k = ss.length := by omega
      have L0 := hL.below hb hL.two
      have hz8 : Hid (ss.length ≤ 8 → z = ((cat ss).length : Int)) := hkl ▸ hz
      clear hz e hm
      go_wp2_with (fail)
      refine (awake_any _ L0).mono ?_
      rintro e w1 ⟨rfl, hb1⟩
      have H1 := below_then hb hb1
      have L1 := hL.below H1 hL.two
      by_cases hbig : 8 < ss.length ∨ 300 < z
      · go_wp2_with (fail)
        all_goals first
          | (refine (awake_any _ L1).mono ?_; rintro e w2 ⟨rfl, hb2⟩; go_wp2_with (fail); go_ret; exact ⟨rfl, below_then H1 hb2⟩)
          | (exfalso; omega)
      · have b8 : ss.length ≤ 8 := by omega
        have t8 : ¬ (8 : Int) < (ss.length : Int) := by omega
        have t3 : ¬ (300 : Int) < z := by omega
        have h300 : (cat ss).length ≤ 300 := by have := hz8.out b8; omega
        clear hbig
        go_wp2_with (fail)
        refine (join_any a cap ss (by omega) hlen _ L1 (h.below H1)).mono ?_
        rintro e w2 ⟨rfl, hb2⟩
        have H2 := below_then H1 hb2
        obtain ⟨st, hst⟩ : ∃ st, Hid (str (Sh.sum (cat ss)) = st) := ⟨_, rfl⟩
        rw [hst.out]
        have v1 : (st.toList == st.toList) = true := by simp
        go_wp2_with (fail)
        refine (refjoin_any a cap ss h300 hlen _ (h.below H2)).mono ?_
        rintro e w3 ⟨rfl, hb3⟩
        rw [hst.out]
        go_wp2_with (fail)
        go_ret
        exact ⟨rfl, below_then H2 hb3⟩
end Go.Proofs.YtmaifngoffmjnaaDoor
