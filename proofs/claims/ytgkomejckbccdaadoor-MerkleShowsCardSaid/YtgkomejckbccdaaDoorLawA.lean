import Derived.Test.YtgkomejckbccdaaDoorAwk9
import Derived.Test.YtgkomejckbccdaaDoorRefA
namespace Go.Proofs.YtgkomejckbccdaaDoor
open Go.RowKit
def fewB (ss : List ByteArray) : Bool := (ss.all fun s => decide (s.size ≤ 64)) && decide (ss.length ≤ 20)
theorem few_sr {ss : List ByteArray} (h : fewB ss = true) : Sr ss ∧ ss.length ≤ 20 := by
  simp [fewB] at h
  exact ⟨h.1, h.2⟩
theorem few_bad {ss : List ByteArray} {i : Nat} (hi : i < ss.length) (h : 64 < (ss.getD i ByteArray.empty).size) : fewB ss = false := by
  rw [Bool.eq_false_iff]
  intro h2
  have h3 := (few_sr h2).1 ss[i] (List.getElem_mem hi)
  have e : ss.getD i ByteArray.empty = ss[i] := by simp [List.getD, hi]
  rw [e] at h
  omega
theorem few_all {ss : List ByteArray} {n : Nat} (hn : n = ss.length) (h : ∀ i, i < ss.length → (ss.getD i ByteArray.empty).size ≤ 64) : fewB ss = decide (n ≤ 20) := by
  subst hn
  have : (ss.all fun s => decide (s.size ≤ 64)) = true := by
    rw [List.all_eq_true]
    intro s hs
    obtain ⟨i, hi, rfl⟩ := List.getElem_of_mem hs
    have := h i hi
    simpa [List.getD, hi] using this
  rw [fewB, this, Bool.true_and]
theorem few_any (a : Option Addr) (n cap : Nat) (ss : List ByteArray) (b : Bool) (hb : Hid (fewB ss = b)) (hbig : cap ≤ maxLen) (w : World) (hR : Hid (RdS w a n cap ss)) :
    Calls Tryd.prog 21 #[.slice a n cap] w fun e w' => e = .returned (.bool b) ∧ w = w' := by
  have hbig2 : n < 9223372036854775808 := by have := hR.out.cap; unfold maxLen at hbig; omega
  clear hbig
  go_enter Tryd.func21, Tryd.ntmps21
  go_wp2
  go_loop [3] (fun i => ∃ k : Nat, k ≤ n ∧ i = .int .i64 (k : Int) ∧ Hid (∀ j, j < k → (ss.getD j ByteArray.empty).size ≤ 64)) (fun i => n - (intOf i).toNat)
  case atStart => exact ⟨0, by omega, rfl, fun j hj => by omega⟩
  case round =>
    obtain ⟨k, hk, rfl, hall⟩ := hrel
    by_cases hlt : k < n
    · have e1 : (k : Int) < (n : Int) := by omega
      obtain ⟨s, hs⟩ : ∃ s, Hid (ss.getD k ByteArray.empty = s) := ⟨_, rfl⟩
      obtain ⟨bl, o, rfl, e2⟩ := hR.out.cell hlt hs.out
      by_cases h64 : s.size ≤ 64
      · have hnext : Hid (∀ j, j < k + 1 → (ss.getD j ByteArray.empty).size ≤ 64) := fun j hj => by
          by_cases hjk : j < k
          · exact hall.out j hjk
          · obtain rfl : j = k := by omega
            rw [hs.out]; exact h64
        have t1 : ¬ (64 : Int) < (s.size : Int) := by omega
        clear hall h64
        go_wp2
        go_round
        case rel => exact ⟨k + 1, by omega, by go_num, hnext⟩
        case measure => simp [intOf]; omega
      · have hbad : Hid (b = false) := by
          show _ = _
          rw [← hb.out]
          exact few_bad (i := k) (by have := hR.out.len; omega) (by rw [hs.out]; omega)
        have t1 : (64 : Int) < (s.size : Int) := by omega
        clear hall h64
        go_wp2
        go_ret
        exact ⟨by rw [hbad.out]; rfl, rfl⟩
    · obtain rfl : k = n := by omega
      have e1 : ¬ (k : Int) < (k : Int) := by omega
      have hgood : Hid (b = decide (k ≤ 20)) := by
        show _ = _
        rw [← hb.out]
        exact few_all hR.out.len fun i hi => hall.out i (by have := hR.out.len; omega)
      clear hall
      by_cases h20 : k ≤ 20
      · have t2 : (k : Int) ≤ 20 := by omega
        have t3 : Hid (b = true) := by show _ = _; rw [hgood.out]; exact decide_eq_true h20
        clear hgood h20
        go_wp2
        go_ret
        exact ⟨by rw [t3.out]; rfl, rfl⟩
      · have t2 : ¬ (k : Int) ≤ 20 := by omega
        have t3 : Hid (b = false) := by show _ = _; rw [hgood.out]; exact decide_eq_false h20
        clear hgood h20
        go_wp2
        go_ret
        exact ⟨by rw [t3.out]; rfl, rfl⟩
theorem sameS_eq (a1 a2 : Option Addr) (n c1 c2 : Nat) (P : List ByteArray) (hbig : n ≤ 1000000000) (w : World) (h1 : Hid (RdS w a1 n c1 P)) (h2 : Hid (RdS w a2 n c2 P)) :
    Calls Tryd.prog 26 #[.slice a1 n c1, .slice a2 n c2] w fun e w' => e = .returned (.bool true) ∧ Below w.heap.size w w' := by
  go_enter Tryd.func26, Tryd.ntmps26
  go_wp2
  go_loopw [13, 5] (fun i _ W => ∃ k : Nat, k ≤ n ∧ i = .int .i64 (k : Int) ∧ Below w.heap.size w W) (fun i _ _ => n - (intOf i).toNat)
  case atStart => exact ⟨0, by omega, rfl, Below.refl _ _⟩
  case round =>
    obtain ⟨k, hk, rfl, hb⟩ := hrel
    by_cases hlt : k < n
    · have e1 : (k : Int) < (n : Int) := by omega
      obtain ⟨s, hs⟩ : ∃ s, Hid (P.getD k ByteArray.empty = s) := ⟨_, rfl⟩
      obtain ⟨b1, o1, rfl, c1'⟩ := (h1.out.below hb).cell hlt hs.out
      obtain ⟨b2, o2, rfl, c2'⟩ := (h2.out.below hb).cell hlt hs.out
      have q2 : (s.toList == s.toList) = true := by simp
      have y0 : (0 : Int) ≤ (k : Int) := by omega
      go_wp2
      go_quiet (fail)
      go_wp2
      go_roundw
      case rel => exact ⟨k + 1, by omega, by go_num, below_drewN hb _⟩
      case measure => simp [intOf]; omega
    · obtain rfl : k = n := by omega
      have e1 : ¬ (k : Int) < (k : Int) := by omega
      go_wp2
      go_ret
      exact ⟨rfl, hb⟩
end Go.Proofs.YtgkomejckbccdaaDoor
