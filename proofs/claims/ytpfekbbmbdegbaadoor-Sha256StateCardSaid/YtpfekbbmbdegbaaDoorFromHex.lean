import Derived.Test.YtpfekbbmbdegbaaDoorHex
import Derived.Test.YtpfekbbmbdegbaaDoorUnP
import Derived.Test.YtpfekbbmbdegbaaDoorBytes
namespace Go.Proofs.YtpfekbbmbdegbaaDoor
open Go.RowKit
theorem digit_some (c v : Nat) (h : Hx.val c = some v) (w : World) :
    Calls Tryd.prog 48 #[.int .u8 c] w fun e w' => e = .returned (.tuple #[.int .u8 v, .bool true]) ∧ w = w' := by
  unfold Hx.val at h
  by_cases h1 : 48 ≤ c ∧ c ≤ 57
  · rw [if_pos h1] at h
    obtain ⟨l1, l2⟩ := h1
    obtain rfl : v = c - 48 := by simpa using h.symm
    have e : Hid (((c - 48 : Nat) : Int) = (c : Int) - 48) := by show _ = _; omega
    clear h
    go_enter Tryd.func48, Tryd.ntmps48
    go_wp2
    go_ret2
    exact ⟨by rw [e.out]; rfl, rfl⟩
  · rw [if_neg h1] at h
    by_cases h2 : 97 ≤ c ∧ c ≤ 102
    · rw [if_pos h2] at h
      obtain ⟨l1, l2⟩ := h2
      obtain rfl : v = c - 87 := by simpa using h.symm
      have e : Hid (((c - 87 : Nat) : Int) = (c : Int) - 97 + 10) := by show _ = _; omega
      have l3 : ¬ c ≤ 57 := by omega
      have l4 : 48 ≤ c := by omega
      clear h h1
      go_enter Tryd.func48, Tryd.ntmps48
      go_wp2
      go_ret2
      exact ⟨by rw [e.out]; rfl, rfl⟩
    · rw [if_neg h2] at h; cases h
theorem digit_none (c : Nat) (hc : c < 256) (h : Hx.val c = none) (w : World) :
    Calls Tryd.prog 48 #[.int .u8 c] w fun e w' => e = .returned (.tuple #[.int .u8 0, .bool false]) ∧ w = w' := by
  have h1 : ¬ (48 ≤ c ∧ c ≤ 57) := fun k => by unfold Hx.val at h; rw [if_pos k] at h; cases h
  have h2 : ¬ (97 ≤ c ∧ c ≤ 102) := fun k => by unfold Hx.val at h; rw [if_neg h1, if_pos k] at h; cases h
  clear h
  by_cases a : c < 48
  · have l1 : ¬ 48 ≤ c := by omega
    have l2 : ¬ 97 ≤ c := by omega
    clear h1 h2
    go_enter Tryd.func48, Tryd.ntmps48
    go_wp2
    go_ret2
    exact ⟨rfl, rfl⟩
  · by_cases b : c < 97
    · have l1 : 48 ≤ c := by omega
      have l3 : ¬ c ≤ 57 := by omega
      have l2 : ¬ 97 ≤ c := by omega
      clear h1 h2
      go_enter Tryd.func48, Tryd.ntmps48
      go_wp2
      go_ret2
      exact ⟨rfl, rfl⟩
    · have l1 : 48 ≤ c := by omega
      have l3 : ¬ c ≤ 57 := by omega
      have l2 : 97 ≤ c := by omega
      have l4 : ¬ c ≤ 102 := by omega
      clear h1 h2
      go_enter Tryd.func48, Tryd.ntmps48
      go_wp2
      go_ret2
      exact ⟨rfl, rfl⟩
theorem rowA_zeros (kd : IntKind) (f g : Nat → Nat) (n : Nat) (h : ∀ i, g i = 0) : rowA kd f n 0 = rowA kd g n n := by
  simp [rowA, h]
def FHPost (r : Option (List Nat)) (e : Ending) : Prop := match r with
  | some r => e = .returned (.tuple #[.string (str r), .int .i64 0])
  | none => e = .returned (.tuple #[.string { data := #[] }, .int .i64 3])
theorem or_small {t v : Nat} (ht : t < 16) (hv : v < 16) : bits BinOp.or IntKind.u8 ((t : Int) * 16) (v : Int) = ((t * 16 + v : Nat) : Int) := by
  have h := u8_or_nat (t * 16) v (by omega) (by omega)
  have e : t * 16 ||| v = t * 16 + v := by
    have := Nat.shiftLeft_add_eq_or_of_lt (show v < 2 ^ 4 by omega) t
    rw [Nat.shiftLeft_eq] at this
    exact this.symm
  rw [e] at h
  rw [show (t : Int) * 16 = ((t * 16 : Nat) : Int) by omega]
  exact h
set_option maxRecDepth 100000 in
set_option maxHeartbeats 1000000 in
theorem fromHex_any (s : ByteArray) (hbig : s.size ≤ 35184372088832) (w : World) :
    Calls Tryd.prog 37 #[.string s] w fun e w' => FHPost (Hx.un (ofStr s)) e ∧ Below w.heap.size w w' := by
  obtain ⟨xs, hxs⟩ : ∃ xs, Hid (ofStr s = xs) := ⟨_, rfl⟩
  have hlen : Hid (s.size = xs.length) := by show _ = _; rw [← hxs.out, ofStr_len]
  have hx256 : Hid (∀ x ∈ xs, x < 256) := by rw [← hxs.out]; exact ofStr_lt s
  rw [hxs.out]
  by_cases hodd : s.size % 2 = 0
  · have hmk : ∀ W, (Instr.makeSlice 28 (.int .i64 ((s.size : Int) / 2)) (.int .i64 ((s.size : Int) / 2))).run Tryd.prog W = .ok (.slice (some ⟨W.heap.size, 0, none⟩) (s.size / 2) (s.size / 2)) (W.alloc (.cells (rowA .u8 (fun _ => 0) (s.size / 2) 0) 5)) := fun W => by
      have := makeLen (s.size / 2) (by omega) W
      rwa [show ((s.size / 2 : Nat) : Int) = (s.size : Int) / 2 by omega] at this
    have ht : ((s.size : Int) % 2 != 0) = false := by simp; omega
    have hev : Hid (xs.length % 2 = 0) := by show _ = _; rw [← hlen.out]; exact hodd
    clear hodd
    go_enter Tryd.func37, Tryd.ntmps37
    go_wp2
    go_loopw [18, 5, 6, 7, 2, 3] (fun i _ _ _ _ _ wr => ∃ k : Nat, k ≤ s.size ∧ i = .int .i64 k ∧ Hid (∀ p, p < k → Hx.val (xs.getD p 0) ≠ none) ∧ Blk wr w.heap.size 5 (rowA .u8 (Hx.part xs k) (s.size / 2) (s.size / 2)) ∧ Below w.heap.size w wr) (fun i _ _ _ _ _ _ => s.size - (intOf i).toNat)
    case atStart => exact ⟨0, by omega, rfl, hidIt (fun p hp => absurd hp (by omega)), by rw [← rowA_zeros _ (fun _ => 0) (Hx.part xs 0) _ (Hx.part_zero xs)]; exact Blk.new _ _ _, (Below.refl _ _).alloc (Nat.le_refl _) _⟩
    case round =>
      obtain ⟨k, hk, rfl, hall, R, hb⟩ := hrel
      by_cases hlt : k < s.size
      · obtain ⟨x, hx⟩ : ∃ x, Hid (xs.getD k 0 = x) := ⟨_, rfl⟩
        have hidx : ∀ W, (Instr.index 9 (.string s) (.int .i64 (k : Int))).run Tryd.prog W = .ok (.int .u8 (x : Int)) W := fun W => by
          rw [idxStr s k hlt, hxs.out, hx.out]
        cases hv : Hx.val x with
        | none =>
          have hx2 : x < 256 := by
            have := hlen.out
            rw [← hx.out, List.getD_eq_getElem?_getD, List.getElem?_eq_getElem (by omega)]
            exact hx256.out _ (List.getElem_mem _)
          have hv2 := hidIt hv
          clear hv
          have hun : Hid (Hx.un xs = none) := Hx.un_none _ xs (Nat.le_refl _) (.inr ⟨k, by rw [← hlen.out]; exact hlt, by rw [hx.out]; exact hv2.out⟩)
          go_wp2_with (fail)
          refine (digit_none x hx2 hv2.out _).mono ?_
          rintro e w' ⟨rfl, rfl⟩
          go_wp2_with (fail)
          go_ret2
          exact ⟨(by unfold FHPost; rw [hun.out]; rfl : FHPost _ _), hb⟩
        | some v =>
          have hv2 := hidIt hv
          have hvl := Hx.val_lt hv
          clear hv
          have hD : Hid (Hx.D xs k = v) := by show _ = _; unfold Hx.D; rw [hx.out, hv2.out]; rfl
          obtain ⟨j, hj⟩ : ∃ j, Hid (k / 2 = j) := ⟨_, rfl⟩
          have hjl : j < s.size / 2 := by have := hj.out; have := hev.out; have := hlen.out; omega
          have hj2 : (k : Int) / 2 = (j : Int) := by have := hj.out; omega
          obtain ⟨t, ht2⟩ : ∃ t, Hid (Hx.part xs k j = t) := ⟨_, rfl⟩
          have htl : t < 16 := by rw [← ht2.out, ← hj.out]; exact Hx.part_lt xs k
          have c := R.cell j
          rw [rowA_all _ _ _ _ hjl, ht2.out] at c
          have fz := R.frozen j
          have hj3 : j < s.size / 2 := hjl
          have hor := or_small htl hvl
          have hm : ((t : Int) * 16) % 256 = (t : Int) * 16 := by omega
          have hstep : Hid (Blk (wr.setCell ⟨w.heap.size, j, none⟩ (.int .u8 ((t * 16 + v : Nat) : Int))) w.heap.size 5 (rowA .u8 (Hx.part xs (k + 1)) (s.size / 2) (s.size / 2))) := by
            have := R.set_ j (.int .u8 ((t * 16 + v : Nat) : Int))
            rw [rowA_upd] at this
            rw [← rowA_congr (fun i _ => Hx.part_step xs k i), hj.out, hD.out]
            rw [← ht2.out] at this
            have e : (fun i => if i = j then Hx.part xs k j * 16 + v else Hx.part xs k i) = (fun i => if i = j then Hx.part xs k i * 16 + v else Hx.part xs k i) := by
              funext i
              by_cases h : i = j
              · rw [if_pos h, if_pos h, h]
              · rw [if_neg h, if_neg h]
            rw [e] at this
            rw [ht2.out] at this
            exact this
          have hall2 : Hid (∀ p, p < k + 1 → Hx.val (xs.getD p 0) ≠ none) := fun p hp => by
            rcases Nat.lt_or_ge p k with h | h
            · exact hall.out p h
            · obtain rfl : p = k := by omega
              rw [hx.out, hv2.out]; exact fun h => by cases h
          clear R hmk ht
          go_wp2_with (fail)
          refine (digit_some x v hv2.out _).mono ?_
          rintro e w' ⟨rfl, rfl⟩
          go_wp2_with (fail)
          go_roundw
          case rel => exact ⟨k + 1, by omega, by go_num, hall2, hstep.out, hb.setCell (by simp) _⟩
          case measure => simp [intOf]; omega
      · have e : k = s.size := by omega
        have hun : Hid (Hx.un xs = some (Hx.pairs xs)) := Hx.un_some _ xs (Nat.le_refl _) hev.out (fun p hp => hall.out p (by rw [e, hlen.out]; exact hp))
        have hpl : Hid ((Hx.pairs xs).length = s.size / 2) := by show _ = _; rw [Hx.pairs_len, hlen.out]
        have hby : Bytes wr (some ⟨w.heap.size, 0, none⟩) (Hx.pairs xs) := row_bytes R hpl.out (Nat.le_refl _) (fun i hi => by rw [e, hlen.out]; exact Hx.part_all xs i hev.out (by rw [← hlen.out]; exact hi))
        have hcv := conv_str wr (some ⟨w.heap.size, 0, none⟩) (s.size / 2) (s.size / 2) (Hx.pairs xs) hpl.out.symm hby
        obtain ⟨so, hso⟩ : ∃ so, Hid (str (Hx.pairs xs) = so) := ⟨_, rfl⟩
        rw [hso.out] at hcv
        clear R hby hmk ht e
        go_wp2
        go_ret2
        exact ⟨(by unfold FHPost; rw [hun.out]; simp only; rw [hso.out]; rfl : FHPost _ _), hb⟩
  · have hun : Hid (Hx.un xs = none) := Hx.un_none _ xs (Nat.le_refl _) (.inl (by rw [← hlen.out]; exact hodd))
    have ht : ((s.size : Int) % 2 != 0) = true := by simp; omega
    clear hodd
    go_enter Tryd.func37, Tryd.ntmps37
    go_wp2
    go_ret2
    exact ⟨(by unfold FHPost; rw [hun.out]; rfl : FHPost _ _), Below.refl _ _⟩
end Go.Proofs.YtpfekbbmbdegbaaDoor
