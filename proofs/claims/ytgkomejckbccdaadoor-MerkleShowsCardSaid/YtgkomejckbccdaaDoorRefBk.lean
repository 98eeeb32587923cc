import Derived.Test.YtgkomejckbccdaaDoorBlocks
import Derived.Test.YtgkomejckbccdaaDoorRefB
namespace Go.Proofs.YtgkomejckbccdaaDoor
open Go.RowKit
theorem sliceBH (a : Option Addr) (n cap k : Nat) (h : k ≤ cap) (W : World) :
    (Instr.slice 22 (.slice a n cap) none (some (.int .i64 (k : Int))) none).run Tryd.prog W = .ok (.slice a k cap) W := by
  have e := run_slice_h W 22 a n cap (P := Tryd.prog) (by kernel_rfl) .i64 (k : Int) (by omega) (by omega)
  rw [e]
  have e2 : (sizeOf (Tryd.prog.elem 22)).run Tryd.prog W = .ok 1 W := by kernel_rfl
  rw [e2]
  have e3 : (a.map fun x => x.add (0 * 1)) = a := by cases a <;> simp [Addr.add]
  simp only [Result.andThen, sliced, Int.toNat_natCast, e3, ite_self, Nat.sub_zero]
def blq : Value → Nat | .slice _ n _ => n | _ => 0
theorem bytes_nil (w : World) (a : Option Addr) : Bytes w a [] := fun i hi => by simp at hi
theorem bytes_tail {w : World} {a : Option Addr} {bs : List Nat} (h : Bytes w a bs) (e cap : Nat) (hcap : bs.length ≤ cap) : Bytes w (if cap = e then a else a.map fun x => x.add e) (bs.drop e) := by
  split
  · rw [List.drop_of_length_le (by omega)]; exact bytes_nil _ _
  · have h2 := sub_bytes h e bs.length
    rwa [List.take_of_length_le (by simp)] at h2
theorem refblocks_bad1 (a : Option Addr) (len cap : Nat) (sz : Int) (h : sz < 1) (w : World) :
    Calls Tryd.prog 42 #[.slice a len cap, .int .i64 sz] w fun e w' => e = .returned (.tuple #[.slice none 0 0, .int .i64 1]) ∧ Below w.heap.size w w' := by
  go_enter Tryd.func42, Tryd.ntmps42
  go_wp2_with (fail)
  go_ret2
  exact ⟨rfl, Below.refl _ _⟩
theorem range_leaves (xs : List Nat) (sz k : Nat) : blkLeaves xs sz (List.range (k + 1)) = blkLeaves xs sz (List.range k) ++ [blkLeaf xs sz k] := by rw [List.range_succ, blkLeaves_snoc]
set_option maxRecDepth 100000 in
set_option maxHeartbeats 1000000 in
theorem refblocks_good (a : Option Addr) (len cap sz : Nat) (xs : List Nat) (hs1 : 1 ≤ sz) (hs2 : sz < 9223372036854775808) (hlen : len ≤ 1000) (w : World) (hX : RowB w a len cap xs) :
    Calls Tryd.prog 42 #[.slice a len cap, .int .i64 (sz : Int)] w fun e w' => (∃ v, e = .returned (.tuple #[v, .int .i64 0]) ∧ w'.ownsRow w.heap.size 9 1 v (rounds len sz) (svals (blkLeaves xs sz (List.range (rounds len sz))))) ∧ Below w.heap.size w w' := by
  have g1 : ¬ (sz : Int) < 1 := by omega
  have g2 : ¬ (1048576 : Int) < (len : Int) := by omega
  have hln : Hid (len = xs.length) := hX.len
  have hlt : Hid (∀ x ∈ xs, x < 256) := hX.lt
  have hcap0 : len ≤ cap := by rw [hX.len]; exact hX.lecap
  have hby0 : Hid (Bytes w a xs) := hX.bytes
  have hb1 : Hid (Below w.heap.size w (w.alloc (.cells #[] 9))) := (Below.refl _ _).alloc (Nat.le_refl _) _
  have ho0 := hidIt (empty_own w)
  have hrl : Hid (rounds len sz ≤ 1001) := by
    show _ ≤ _
    unfold rounds
    split
    · omega
    · have := Nat.div_le_self (len - 1) sz; omega
  clear hX
  go_enter Tryd.func42, Tryd.ntmps42
  go_wp2_with (fail)
  go_loopw [0, 6, 7] (fun x o _ wr => ∃ (k m c : Nat) (A O : Option Addr) (C : Nat), Hid (k ≤ rounds len sz) ∧ Hid (len - k * sz = m) ∧ m ≤ c ∧ m ≤ 1000 ∧ x = .slice A m c ∧ o = .slice O k C ∧ Hid (Bytes w A (xs.drop (k * sz))) ∧ Hid (wr.ownsRow w.heap.size 9 1 (.slice O k C) k (svals (blkLeaves xs sz (List.range k)))) ∧ Hid (Below w.heap.size w wr)) (fun x _ _ _ => blq x)
  case atStart => exact ⟨0, len, cap, a, some ⟨w.heap.size, 0, none⟩, 0, Nat.zero_le _, by show _ = _; simp, hcap0, hlen, rfl, rfl, by rw [Nat.zero_mul, List.drop_zero]; exact hby0.out, ho0.out, hb1.out⟩
  case round =>
    obtain ⟨k, m, c, A, O, C, hk, hm, hmc, hm1, rfl, rfl, hby, ho, hB⟩ := hrel
    clear ho0 hb1 hby0
    by_cases h0 : m = 0
    · have e1 : ¬ (0 : Int) < (m : Int) := by omega
      have hkr : Hid (k = rounds len sz) := rounds_end hs1 hk.out (by have := hm.out; omega)
      clear h0
      go_wp2_with (fail)
      go_ret2
      refine ⟨⟨_, rfl, ?_⟩, hB.out⟩
      rw [← hkr.out]; exact ho.out
    · have e1 : (0 : Int) < (m : Int) := by omega
      obtain ⟨e, he⟩ : ∃ e, Hid (min sz m = e) := ⟨_, rfl⟩
      have hmin : min (sz : Int) (m : Int) = (e : Int) := by have := he.out; omega
      have hem : Hid (e ≤ m) := by show _ ≤ _; rw [← he.out]; exact Nat.min_le_right _ _
      have he1 : Hid (1 ≤ e) := by show _ ≤ _; rw [← he.out]; omega
      obtain ⟨A2, hA2⟩ : ∃ z, Hid ((if c = e then A else A.map fun x => x.add e) = z) := ⟨_, rfl⟩
      obtain ⟨m2, hm2⟩ : ∃ z, Hid (m - e = z) := ⟨_, rfl⟩
      obtain ⟨c2, hc2⟩ : ∃ z, Hid (c - e = z) := ⟨_, rfl⟩
      have sl1 := fun W => sliceBH A m c e (by have := hem.out; omega) W
      have sl2 := fun W => sliceBL A m c e hem.out W
      rw [hA2.out, hm2.out, hc2.out] at sl2
      have hlk : Hid (k < rounds len sz) := rounds_lt hs1 (by have := hm.out; omega)
      have hdl : Hid ((xs.drop (k * sz)).length = m) := by show _ = _; rw [List.length_drop, ← hln.out]; exact hm.out
      have hbe : Hid (bln xs.length sz k = e) := by show min sz (xs.length - k * sz) = e; rw [← hln.out, hm.out]; exact he.out
      obtain ⟨x, hx⟩ : ∃ x, Hid (Mk.leaf ((xs.drop (k * sz)).take e) = x) := ⟨_, rfl⟩
      have hsn : Hid (blkLeaves xs sz (List.range (k + 1)) = blkLeaves xs sz (List.range k) ++ [x]) := by
        show _ = _
        rw [range_leaves, blkLeaf, hbe.out, hx.out]
      have htl : Hid (e = ((xs.drop (k * sz)).take e).length) := by show _ = _; rw [List.length_take, hdl.out]; have := hem.out; omega
      have hbt : Hid (Bytes wr A ((xs.drop (k * sz)).take e)) := by
        intro i hi
        obtain ⟨b, off, h1, h2⟩ := (hby.out.below hB.out) i (by rw [List.length_take] at hi; omega)
        refine ⟨b, off, h1, ?_⟩
        rw [h2]
        have : i < e := by rw [List.length_take] at hi; omega
        simp [List.getD, this]
      have hnn : Hid (A = none → c = 0 ∧ ((xs.drop (k * sz)).take e) = []) := fun hA => by
        obtain ⟨b, off, h1, _⟩ := hby.out 0 (by rw [hdl.out]; omega)
        rw [hA] at h1; cases h1
      have hby2 : Hid (Bytes w A2 (xs.drop ((k + 1) * sz))) := by
        have h3 := bytes_tail hby.out e c (by rw [hdl.out]; exact hmc)
        rw [hA2.out] at h3
        have h4 : (xs.drop (k * sz)).drop e = xs.drop ((k + 1) * sz) := by
          rcases Nat.lt_or_ge m sz with h5 | h5
          · rw [List.drop_of_length_le (by rw [hdl.out]; have := he.out; omega), List.drop_of_length_le (by rw [← hln.out, Nat.add_mul, Nat.one_mul]; have := hm.out; omega)]
          · rw [List.drop_drop, Nat.add_mul, Nat.one_mul, show e = sz by have := he.out; omega]
        rwa [h4] at h3
      have hm3 : Hid (len - (k + 1) * sz = m2) := by
        show _ = _
        rw [Nat.add_mul, Nat.one_mul, ← hm2.out]; have := hm.out; have := he.out; omega
      have hpl : Hid (∀ y ∈ (xs.drop (k * sz)).take e, y < 256) := fun y hy => hlt.out y (List.mem_of_mem_drop (List.mem_of_mem_take hy))
      clear he hm hk hA2 hby hdl
      go_wp2_with (fail)
      refine (refleaf_any A e c ((xs.drop (k * sz)).take e) htl hpl.out (by rw [← htl.out]; have := hem.out; omega) _ hbt hnn).mono ?_
      rintro e3 w3 ⟨rfl, hb3⟩
      rw [hx.out]
      have B3 := hidIt (below_then hB.out hb3)
      have ho3 := hidIt (own_belowS ho.out hb3)
      clear hb3 ho hB hbt hnn htl hpl
      go_wp2_with (at_builtin; refine wpList_snoc_str _ rfl _ _ rfl w.heap.size _ k (blkLeaves xs sz (List.range k)) rfl (own_belowS ho3.out ((Below.refl _ _).alloc (Nat.le_refl _) _)) w3.heap.size x rfl (str_new _ _) (by have := hlk.out; have := hrl.out; omega) (Nat.le_trans B3.out.size (by simp)) ?_)
      intro v4 w4 hown4 hb4
      obtain ⟨gg, cc, rfl, _, _⟩ := hown4.form (by omega)
      have B4 : Hid (Below w.heap.size w w4) := (B3.out.trans (((Below.refl _ _).alloc (Nat.le_refl _) _).mono B3.out.size)).trans hb4
      have ho4 : Hid (w4.ownsRow w.heap.size 9 1 (.slice (some ⟨gg, 0, none⟩) (k + 1) cc) (k + 1) (svals (blkLeaves xs sz (List.range (k + 1))))) := by show World.ownsRow _ _ _ _ _ _ _; rw [hsn.out]; exact hown4
      clear hown4 hb4 B3 ho3 hsn
      go_wp2_with (fail)
      go_roundw
      case rel => exact ⟨k + 1, m2, c2, A2, some ⟨gg, 0, none⟩, cc, hlk.out, hm3.out, by have := hm2.out; have := hc2.out; omega, by have := hm2.out; omega, rfl, rfl, hby2.out, ho4.out, B4.out⟩
      case measure => simp [blq]; have := hm2.out; have := he1.out; omega
end Go.Proofs.YtgkomejckbccdaaDoor
