import Derived.Test.YtgkomejckbccdaaDoorRefSum
namespace Go.Proofs.YtgkomejckbccdaaDoor
open Go.RowKit
theorem ofStr_add (a b : ByteArray) : ofStr (a ++ b) = ofStr a ++ ofStr b := by
  simp [ofStr]
theorem refsum_at (a : Option Addr) (n cap : Nat) (xs : List Nat) (hn : n = xs.length) (hx : ∀ x ∈ xs, x < 256) (hbig : xs.length ≤ 1200) (w : World) (h : Bytes w a xs) (hnil : a = none → cap = 0 ∧ xs = []) :
    Calls Tryd.prog 54 #[.slice a n cap] w fun e w' => e = .returned (.string (str (Sh.sum xs))) ∧ Below w.heap.size w w' := by
  subst hn; exact refsum_any a cap xs hx hbig w h hnil
set_option maxRecDepth 100000 in
set_option maxHeartbeats 2000000 in
theorem refjoin_any (a : Option Addr) (cap : Nat) (ss : List ByteArray) (hbig : (cat ss).length ≤ 1100) (hlen : ss.length ≤ 140737488355328) (w : World) (h : Strs w a ss) :
    Calls Tryd.prog 56 #[.slice a ss.length cap] w fun e w' => e = .returned (.string (str (Sh.sum (cat ss)))) ∧ Below w.heap.size w w' := by
  go_enter Tryd.func56, Tryd.ntmps56
  go_wp2_with (fail)
  go_loopw [8, 5, 3] (fun i _ v wr => ∃ (k : Nat) (s : ByteArray), k ≤ ss.length ∧ i = .int .i64 k ∧ v = .string s ∧ Hid (ofStr s = cat (ss.take k)) ∧ Below w.heap.size w wr) (fun i _ _ _ => ss.length - (intOf i).toNat)
  case atStart => exact ⟨0, ⟨#[]⟩, by omega, rfl, rfl, rfl, Below.refl _ _⟩
  case round =>
    obtain ⟨k, s, hk, rfl, rfl, hs, hb⟩ := hrel
    by_cases hlt : k < ss.length
    · obtain ⟨b, off, rfl, hc⟩ := h.below hb k hlt
      have hsn := hidIt (cat_snoc ss k hlt)
      have hle := hidIt (cat_le ss (k + 1))
      obtain ⟨p, hp⟩ : ∃ p, Hid (ss.getD k ByteArray.empty = p) := ⟨_, rfl⟩
      rw [hp.out] at hc hsn
      have hnext : Hid (ofStr (s ++ p) = cat (ss.take (k + 1))) := by show _ = _; rw [ofStr_add, hs.out, hsn.out]
      have hsz : s.size + p.size ≤ 1100 := by
        have h1 := hle.out
        rw [← hnext.out, ofStr_add, List.length_append, ofStr_len, ofStr_len] at h1
        omega
      have hsz2 : s.size + p.size ≤ 9223372036854775807 := by omega
      obtain ⟨sp, hsp⟩ : ∃ sp, Hid (s ++ p = sp) := ⟨_, rfl⟩
      have hadd : ∀ W, (Op.stringOp .add s p).run Tryd.prog W = .ok (.string sp) W := fun W => by rw [run_string_add_sum W s p hsz2, hsp.out]
      clear h
      go_wp2_with (fail)
      go_roundw
      case rel => exact ⟨k + 1, sp, by omega, by go_num, rfl, by rw [← hsp.out]; exact hnext, hb⟩
      case measure => simp [intOf]; omega
    · have e : ss.take k = ss := List.take_of_length_le (by omega)
      rw [e] at hs
      have hsl : s.size ≤ 1100 := by rw [← ofStr_len, hs.out]; exact hbig
      obtain ⟨c, W', hcv, hby, hbw, hle, hlw⟩ := conv_to s wr
      clear e h
      go_wp2_with (fail)
      refine (refsum_at _ s.size c (ofStr s) (ofStr_len s).symm (ofStr_lt s) (by rw [ofStr_len]; omega) _ hby (fun h => by cases h)).mono ?_
      rintro e w3 ⟨rfl, hb3⟩
      rw [hs.out]
      obtain ⟨st, hst⟩ : ∃ st, Hid (str (Sh.sum (cat ss)) = st) := ⟨_, rfl⟩
      rw [hst.out]
      clear hs
      go_wp2_with (fail)
      go_ret
      exact ⟨by rw [hst.out]; rfl, below_then hb (below_then hbw hb3)⟩
end Go.Proofs.YtgkomejckbccdaaDoor
