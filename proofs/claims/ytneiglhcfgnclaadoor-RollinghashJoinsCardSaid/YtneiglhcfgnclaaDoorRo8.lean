import Derived.Test.YtneiglhcfgnclaaDoorRo7
namespace Go.Proofs.YtneiglhcfgnclaaDoor
open Go.RowKit
theorem hxor_lt {a b : Nat} (ha : a < 18446744073709551616) (hb : b < 18446744073709551616) : ∃ q : Nat, bits BinOp.xor IntKind.u64 (a : Int) (b : Int) = (q : Int) ∧ q < 18446744073709551616 ∧ Hid (q = a ^^^ b) := ⟨_, u64_xor_nat _ _ ha hb, Rh.xor_lt ha hb, rfl⟩
theorem rot_name {x : Nat} (h : x < 18446744073709551616) (n : Nat) : ∃ q : Nat, Hid (Rh.rot x n = q) ∧ q < 18446744073709551616 := ⟨_, rfl, Rh.rot_lt h n⟩
set_option maxRecDepth 100000 in
theorem refhash_any (s : Nat) (a : Option Addr) (n cap : Nat) (bs : List Nat) (hnn : n = bs.length) (hn : bs.length ≤ 64) (hc : bs.length ≤ cap) (hlt : ∀ x ∈ bs, x < 256) (w : World) (h : Bytes w a bs) :
    Calls Tryd.prog 15 #[.int .u64 s, .slice a n cap] w fun e w' => e = .returned (.int .u64 (Rh.hsh (Rh.num s) bs)) ∧ w = w' := by
  subst hnn
  go_enter Tryd.func15, Tryd.ntmps15
  go_wp2
  go_loopw [5, 6] (fun v i wr => ∃ k y : Nat, k ≤ bs.length ∧ i = .int .i64 k ∧ v = .int .u64 (y : Int) ∧ y < 18446744073709551616 ∧ Hid (y = Rh.rot (Rh.hsh (Rh.num s) (bs.take k)) (bs.length - k)) ∧ wr = w) (fun _ i _ => bs.length - (intOf i).toNat)
  case atStart => exact ⟨0, 0, by omega, rfl, rfl, by decide, by show _ = _; rw [List.take_zero]; exact (Rh.rot_zero _).symm, rfl⟩
  case round =>
    obtain ⟨k, y, hk, rfl, rfl, hy1, hy, rfl⟩ := hrel
    by_cases hlt2 : k < bs.length
    · obtain ⟨b, off, rfl, cb⟩ := h k hlt2
      have lb := mem_getD hlt (k := k)
      have hst := hidIt (Rh.sum_step (num_all s) bs k hlt2)
      generalize bs.getD k 0 = x at cb lb hst
      have t1 : k < cap := by omega
      obtain ⟨m, hm⟩ : ∃ m : Nat, bs.length - 1 - k = m := ⟨_, rfl⟩
      have hm2 : (bs.length : Int) - 1 - (k : Int) = (m : Int) := by omega
      have hm3 : m ≤ 64 := by omega
      rw [hm] at hst
      obtain ⟨q, hq, lq⟩ := rot_name (Rh.num_lt s x) m
      obtain ⟨z, ez, lz, hz⟩ := hxor_lt hy1 lq
      have hz2 : Hid (z = Rh.rot (Rh.hsh (Rh.num s) (bs.take (k + 1))) (bs.length - (k + 1))) := by show _ = _; rw [hst.out, hq.out, ← hy.out]; exact hz.out
      obtain ⟨nx, hnx, lnx⟩ : ∃ nx, Hid (Rh.num s x = nx) ∧ nx < 18446744073709551616 := ⟨_, rfl, Rh.num_lt s x⟩
      have hq2 : Hid (Rh.rot nx m = q) := by show _ = _; rw [← hnx.out]; exact hq.out
      clear hst hm hz hq h
      go_wp2_with (fail)
      refine (refnum_any s x (by omega) _).mono ?_
      rintro e w1 ⟨rfl, rfl⟩
      rw [hnx.out]
      go_wp2_with (fail)
      refine (refrot_any nx m lnx hm3 _).mono ?_
      rintro e w1 ⟨rfl, rfl⟩
      rw [hq2.out]
      go_wp2_with (fail)
      go_roundw
      case rel => exact ⟨k + 1, z, by omega, by go_num, rfl, lz, hz2, trivial⟩
      case measure => simp [intOf]; omega
    · obtain rfl : k = bs.length := by omega
      have hy2 : Hid (y = Rh.hsh (Rh.num s) bs) := by show _ = _; rw [hy.out, List.take_length, Nat.sub_self]; rfl
      clear hy
      go_wp2_with (fail)
      go_ret
      exact ⟨by rw [← hy2.out]; rfl, rfl⟩
set_option maxRecDepth 100000 in
theorem refwin_any (n : Int) (w : World) :
    Calls Tryd.prog 21 #[.int .i64 n] w fun e w' => e = .returned (.int .i64 (wnd n : Nat)) ∧ w = w' := by
  by_cases h1 : n < 1
  · have e : wnd n = 1 := by unfold wnd; rw [if_pos h1]
    go_enter Tryd.func21, Tryd.ntmps21
    go_wp2
    go_ret
    exact ⟨by rw [e]; rfl, rfl⟩
  · by_cases h2 : 64 < n
    · have e : wnd n = 64 := by unfold wnd; rw [if_neg h1, if_pos h2]
      have h3 : n > 64 := h2
      go_enter Tryd.func21, Tryd.ntmps21
      go_wp2
      go_ret
      exact ⟨rfl, rfl⟩
    · have e : ((wnd n : Nat) : Int) = n := by unfold wnd; rw [if_neg h1, if_neg h2]; omega
      have h3 : ¬ n > 64 := h2
      go_enter Tryd.func21, Tryd.ntmps21
      go_wp2
      go_ret
      exact ⟨rfl, rfl⟩
theorem sliceFrom (a : Option Addr) (n cap k : Nat) (h : k < n) (hc : n ≤ cap) (W : World) : (Instr.slice 28 (.slice a n cap) (some (.int .i64 (k : Int))) none none).run Tryd.prog W = .ok (.slice (a.map fun x => x.add k) (n - k) (cap - k)) W := by
  have h := run_slice_l W 28 a n cap (P := Tryd.prog) (by kernel_rfl) .i64 (k : Int) (by omega) (by omega)
  rw [h]
  have e2 : (sizeOf (Tryd.prog.elem 28)).run Tryd.prog W = .ok 1 W := by kernel_rfl
  rw [e2]
  simp only [Result.andThen, sliced, Int.toNat_natCast]
  rw [if_neg (by omega), Nat.mul_one]
theorem last_bytes {w : World} {a : Option Addr} {bs : List Nat} (h : Bytes w a bs) (k : Nat) (_hk : k ≤ bs.length) : Bytes w (a.map fun x => x.add k) (bs.drop k) := by
  have := sub_bytes h k (bs.length - k)
  rwa [List.take_of_length_le (by rw [List.length_drop]; exact Nat.le_refl _)] at this
/-- what Last returns -/
def lastV (a : Option Addr) (n cap win : Nat) : Value := if win < n then .slice (a.map fun x => x.add (n - win)) win (cap - (n - win)) else .slice a n cap
theorem lastV_ok (a : Option Addr) (cap : Nat) (bs : List Nat) (win : Nat) (hc : bs.length ≤ cap) : ∃ a' c', lastV a bs.length cap win = .slice a' (Rh.last win bs).length c' ∧ (Rh.last win bs).length ≤ c' ∧ ∀ W, Bytes W a bs → Bytes W a' (Rh.last win bs) := by
  unfold lastV
  by_cases hl : win < bs.length
  · rw [if_pos hl]
    have e : (Rh.last win bs).length = win := by rw [Rh.last_len]; omega
    exact ⟨_, _, by rw [e], by rw [e]; omega, fun W hW => last_bytes hW _ (by omega)⟩
  · rw [if_neg hl, last_all win bs (by omega)]
    exact ⟨_, _, rfl, hc, fun W hW => hW⟩
set_option maxRecDepth 100000 in
theorem reflast_any (a : Option Addr) (n cap win : Nat) (hc : n ≤ cap) (hbig : n ≤ 1000000) (w2 : 1 ≤ win) (hw : win ≤ 64) (w : World) :
    Calls Tryd.prog 20 #[.slice a n cap, .int .i64 win] w fun e w' => e = .returned (lastV a n cap win) ∧ w = w' := by
  unfold lastV
  by_cases hl : win < n
  · obtain ⟨k, hk⟩ : ∃ k : Nat, n - win = k := ⟨_, rfl⟩
    have hk2 : (n : Int) - (win : Int) = (k : Int) := by omega
    have hsl := fun W => sliceFrom a n cap k (by omega) hc W
    have t1 : (n : Int) > (win : Int) := by omega
    have hw2 : n - k = win := by omega
    rw [if_pos hl, hk]
    rw [hw2] at hsl
    clear hk hc hw2
    go_enter Tryd.func20, Tryd.ntmps20
    go_wp2_with (fail)
    go_ret
    exact ⟨rfl, rfl⟩
  · have t1 : ¬ (n : Int) > (win : Int) := by omega
    rw [if_neg hl]
    go_enter Tryd.func20, Tryd.ntmps20
    go_wp2_with (fail)
    go_ret
    exact ⟨rfl, rfl⟩
theorem sliceTo (g off len cap m : Nat) (hc : m ≤ cap) (W : World) : (Instr.slice 28 (.slice (some ⟨g, off, none⟩) len cap) none (some (.int .i64 (m : Int))) none).run Tryd.prog W = .ok (.slice (some ⟨g, off, none⟩) m cap) W := by
  have h := run_slice_h W 28 (some ⟨g, off, none⟩) len cap (P := Tryd.prog) (by kernel_rfl) .i64 (m : Int) (by omega) (by omega)
  rw [h]
  have e2 : (sizeOf (Tryd.prog.elem 28)).run Tryd.prog W = .ok 1 W := by kernel_rfl
  rw [e2]
  simp only [Result.andThen, sliced, Int.toNat_natCast]
  split <;> simp [Addr.add]
theorem sliceLoHi (b off n cap lo hi : Nat) (h1 : lo < hi) (h2 : hi ≤ cap) (W : World) :
    (Instr.slice 28 (.slice (some ⟨b, off, none⟩) n cap) (some (.int .i64 (lo : Int))) (some (.int .i64 (hi : Int))) none).run Tryd.prog W = .ok (.slice (some ⟨b, off + lo, none⟩) (hi - lo) (cap - lo)) W := by
  have h := run_slice_lh W 28 (some ⟨b, off, none⟩) n cap (P := Tryd.prog) (by kernel_rfl) .i64 .i64 (lo : Int) (hi : Int) (by omega) (by omega) (by omega)
  rw [h]
  have e2 : (sizeOf (Tryd.prog.elem 28)).run Tryd.prog W = .ok 1 W := by kernel_rfl
  rw [e2]
  simp only [Result.andThen, sliced, Int.toNat_natCast]
  rw [if_neg (by omega)]
  simp [Addr.add]
end Go.Proofs.YtneiglhcfgnclaaDoor
