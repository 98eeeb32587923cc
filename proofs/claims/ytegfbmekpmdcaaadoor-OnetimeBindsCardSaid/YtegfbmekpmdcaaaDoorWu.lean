import Derived.Test.YtegfbmekpmdcaaaDoorBy
import Derived.Test.YtegfbmekpmdcaaaDoorEncP
import Derived.OwnWalk
import Derived.Shelf.Strconv.Itoa0
namespace Go.Proofs.YtegfbmekpmdcaaaDoor
open Go.RowKit Go.Shelf
theorem Bytes.grown {w wr : World} {a : Option Addr} {bs : List Nat} (h : Bytes w a bs) (hg : w.grownBy wr none) : Bytes wr a bs := by
  intro i hi
  obtain ⟨b, off, h2, h3⟩ := h i hi
  exact ⟨b, off, h2, hg.cell h3 (by simp)⟩
def lays129_ren : Go.Shelf.Ren := ⟨fun | 129 => 83 | n => n, fun | 53 => 71 | 3 => 3 | 4 => 4 | 46 => 88 | 5 => 5 | 9 => 9 | n => n, fun | n => n⟩
theorem lays129 : Go.Proofs.Lays.n129 Tryd.prog lays129_ren := {
  mixed := by kernel_rfl
  f129 := Tryd.func83.trans (congrArg some (by kernel_rfl))
  t3 := Tryd.underlying3
  a3 := Tryd.isAgg3
  z3 := Tryd.sizeOf3
  v3 := Tryd.zeroValue3
  t4 := Tryd.underlying4
  a4 := Tryd.isAgg4
  z4 := Tryd.sizeOf4
  v4 := Tryd.zeroValue4
  t5 := Tryd.underlying5
  a5 := Tryd.isAgg5
  z5 := Tryd.sizeOf5
  v5 := Tryd.zeroValue5
  t9 := Tryd.underlying9
  a9 := Tryd.isAgg9
  z9 := Tryd.sizeOf9
  v9 := Tryd.zeroValue9
  t46 := Tryd.underlying88
  a46 := Tryd.isAgg88
  z46 := Tryd.sizeOf88
  v46 := Tryd.zeroValue88
  t53 := Tryd.underlying71
  a53 := Tryd.isAgg71
  z53 := Tryd.sizeOf71
  v53 := Tryd.zeroValue71 }
theorem bitLenAux_bl (f : Nat) : ∀ x, x < 2 ^ f → Lib.bitLenAux f x = En.bl x := by
  induction f with
  | zero => intro x h; have : x = 0 := by simpa using h
            subst this; rfl
  | succ f ih =>
    intro x h
    unfold Lib.bitLenAux
    by_cases hx : x = 0
    · subst hx; rfl
    · rw [if_neg hx, ih (x / 2) (by rw [Nat.pow_succ] at h; omega)]
      by_cases h1 : x = 1
      · subst h1; rfl
      · have := En.bl_div x 1 (by omega)
        rw [this]; simp [Nat.add_comm]
theorem len64_any (n : Nat) (h : n < 18446744073709551616) (w : World) :
    Calls Tryd.prog 83 #[.int .u64 n] w fun e w' => e = .returned (.int .i64 (En.bl n)) ∧ w = w' := by
  refine (Any.bits_Len64 lays129 (n : Int) w (by omega) (by omega)).mono ?_
  rintro e w' ⟨rfl, rfl⟩
  refine ⟨?_, rfl⟩
  unfold Lib.bitLen
  rw [Int.toNat_natCast, bitLenAux_bl 64 n (by simpa using h)]
theorem uintSize_any (n : Nat) (h : n < 18446744073709551616) (w : World) :
    Calls Tryd.prog 76 #[.int .u64 n] w fun e w' => e = .returned (.int .i64 (En.enc n).length) ∧ w = w' := by
  have hb : En.bl n ≤ 64 := En.bl_le (by simpa using h)
  have he := hidIt (En.enc_bl (n := n) (by simpa using h))
  go_enter Tryd.func76, Tryd.ntmps76
  go_wp2_with (fail)
  refine (len64_any n h _).mono ?_
  rintro e w' ⟨rfl, rfl⟩
  go_wp2_with (fail)
  go_ret
  exact ⟨ret_int (by rw [he.out]; omega), rfl⟩
theorem byte_or : ∀ a : Fin 256, bits BinOp.or IntKind.u8 (a.val : Int) 128 = ((a.val % 128 + 128 : Nat) : Int) := by decide +kernel
set_option maxRecDepth 100000 in
theorem extend_any (v : Value) (k base n : Nat) (bs : List Nat) (hn : n < 18446744073709551616) (hk : k = bs.length) (hbig : k + 10 ≤ 140737488355328) (w : World) (hb0 : base ≤ w.heap.size) (hown : w.ownsRow base 5 1 v k (vals bs)) :
    Calls Tryd.prog 75 #[v, .int .u64 n] w fun e w' => ∃ v', e = .returned v' ∧ w'.ownsRow base 5 1 v' (bs ++ En.enc n).length (vals (bs ++ En.enc n)) ∧ Below base w w' := by
  obtain ⟨i0, hi, hz0, hz1, hz2⟩ := info_parts info5
  go_enter Tryd.func75, Tryd.ntmps75
  go_wp2
  go_loopw [0, 1] (fun u m wr => ∃ (f q : Nat) (cs : List Nat), m = .int .u64 q ∧ q < 2 ^ (7 * f + 1) ∧ Hid (cs ++ En.encF f q = bs ++ En.enc n) ∧ cs.length + f + 1 ≤ k + 10 ∧ wr.ownsRow base 5 1 u cs.length (vals cs) ∧ Below base w wr) (fun _ m _ => (intOf m).toNat)
  case atStart => exact ⟨9, n, bs, rfl, by simpa using hn, hidIt rfl, by omega, hk ▸ hown, Below.refl _ _⟩
  case round =>
    obtain ⟨f, q, cs, rfl, hq, hrel, hlen, hown, hb⟩ := hrel
    by_cases hlt : 128 ≤ q
    · obtain ⟨f, rfl⟩ : ∃ g, f = g + 1 := ⟨f - 1, by cases f with | zero => simp at hq; omega | succ f => rfl⟩
      have hq8 : (q : Int) % 256 = ((q % 256 : Nat) : Int) := by omega
      have hor := hidIt (byte_or ⟨q % 256, Nat.mod_lt _ (by decide)⟩)
      have hor2 : Hid (bits BinOp.or IntKind.u8 ((q : Int) % 256) 128 = ((q % 128 + 128 : Nat) : Int)) := by
        show _ = _
        rw [hq8, hor.out, show q % 256 % 128 = q % 128 by omega]
      have hn2 : Hid ((cs ++ [q % 128 + 128]) ++ En.encF f (q / 128) = bs ++ En.enc n) := by
        show _ = _
        rw [← hrel.out, En.encF_step f q hlt]; simp
      have hq2 : q / 128 < 2 ^ (7 * f + 1) := by
        rw [Nat.div_lt_iff_lt_mul (by decide)]
        rw [show 7 * (f + 1) + 1 = (7 * f + 1) + 7 by omega, Nat.pow_add] at hq
        simpa using hq
      have hl2 : (cs ++ [q % 128 + 128]).length + f + 1 ≤ k + 10 := by simp; omega
      clear hq8 hor hrel hq
      go_wp2_with (at_builtin; refine wpList_append_own _ rfl _ _ 66 rfl base 5 i0 (.int .u8 0) 1 1 Tryd.underlying66 hi hz0 hz1 hz2 rfl (by decide) _ _ _ rfl (hown.alloc _) ⟨wr.heap.size, 0, none⟩ 1 1 [(.int .u8 (bits BinOp.or IntKind.u8 ((q : Int) % 256) 128))] rfl rfl ?c1 ?c2 ?c3 ?c4 ?c5 ?_)
      case c1 =>
        intro j u hj
        match j, hj with
        | 0, hj => simp at hj; subst hj; simp [Addr.add]
      case c2 => intro u hu; simp at hu; subst hu; rfl
      case c3 => unfold maxLen; omega
      case c4 => omega
      case c5 => have := hb.size; simp; omega
      intro v' w3 hown3 hg3 _
      have hb3 := (hb.alloc (Nat.le_trans hb0 hb.size) _).grown hg3 (by have := hb.size; simp; omega) (fun q hq => (hown.lt q hq).1)
      rw [hor2.out] at hown3
      have hown4 : w3.ownsRow base 5 1 v' (cs ++ [q % 128 + 128]).length (vals (cs ++ [q % 128 + 128])) := by
        rw [← vals_append, List.length_append]; exact hown3
      have hown5 := hidIt hown4
      clear hown hb hg3 hown3 hown4 hor2
      go_wp2
      go_roundw
      case rel => exact ⟨f, q / 128, _, by simp, hq2, hn2, hl2, hown5.out, hb3⟩
      case measure => simp [intOf]; omega
    · have hq8 : Hid ((q : Int) % 256 = (q : Int)) := by show _ = _; omega
      have hn2 : Hid (cs ++ [q] = bs ++ En.enc n) := by
        show _ = _
        rw [← hrel.out, En.encF_last f q (by omega)]
      clear hrel hq
      go_wp2_with (at_builtin; refine wpList_append_own _ rfl _ _ 66 rfl base 5 i0 (.int .u8 0) 1 1 Tryd.underlying66 hi hz0 hz1 hz2 rfl (by decide) _ _ _ rfl (hown.alloc _) ⟨wr.heap.size, 0, none⟩ 1 1 [(.int .u8 (q : Int))] rfl rfl ?c1 ?c2 ?c3 ?c4 ?c5 ?_)
      case c1 =>
        intro j u hj
        match j, hj with
        | 0, hj => simp at hj; subst hj; simp [Addr.add]
      case c2 => intro u hu; simp at hu; subst hu; rfl
      case c3 => unfold maxLen; omega
      case c4 => omega
      case c5 => have := hb.size; simp; omega
      intro v' w3 hown3 hg3 _
      have hb3 := (hb.alloc (Nat.le_trans hb0 hb.size) _).grown hg3 (by have := hb.size; simp; omega) (fun q hq => (hown.lt q hq).1)
      have hown4 : w3.ownsRow base 5 1 v' (bs ++ En.enc n).length (vals (bs ++ En.enc n)) := by
        rw [← hn2.out, ← vals_append, List.length_append]; exact hown3
      clear hown hb hg3 hown3
      go_wp2
      go_ret
      exact ⟨_, rfl, hown4, hb3⟩
set_option maxHeartbeats 1000000 in
set_option maxRecDepth 100000 in
theorem appendUint_any (a : Option Addr) (cap n : Nat) (bs : List Nat) (hn : n < 18446744073709551616) (hbig : bs.length + 10 ≤ 140737488355328) (w : World) (h : Bytes w a bs) (hnil : a = none → cap = 0 ∧ bs = []) :
    Calls Tryd.prog 62 #[.slice a bs.length cap, .int .u64 n] w fun e w' => ∃ a' cap', e = .returned (.slice a' (bs ++ En.enc n).length cap') ∧ w'.ownsRow w.heap.size 5 1 (.slice a' (bs ++ En.enc n).length cap') (bs ++ En.enc n).length (vals (bs ++ En.enc n)) ∧ Below w.heap.size w w' := by
  obtain ⟨i0, hi, hz0, hz1, hz2⟩ := info_parts info5
  have hl10 := (En.enc_len n).2
  obtain ⟨cp, hcp⟩ : ∃ cp, cp = bs.length + (En.enc n).length := ⟨_, rfl⟩
  have hcq := hidIt hcp
  have hcm : cp ≤ 140737488355338 := by omega
  clear hcp
  go_enter Tryd.func62, Tryd.ntmps62
  go_wp2_with (fail)
  refine (uintSize_any n hn _).mono ?_
  rintro e w1 ⟨rfl, rfl⟩
  go_wp2_with (refine wpList_make_own _ rfl _ _ 66 rfl w.heap.size 5 i0 (.int .u8 0) 1 Tryd.underlying66 hi hz0 hz1 .i64 .i64 _ cp rfl rfl ?c0 ?c1 ?c2 (Nat.le_refl _) ?_)
  case c0 => rw [hcq.out]; simp
  case c1 => rw [hz2]; omega
  case c2 => unfold maxLen; omega
  intro w1 hown1 hg1
  have hb1 : Below w.heap.size w w1 := (Below.refl _ _).grown hg1 (Nat.le_refl _) (fun q hq => by cases hq)
  have h1 := h.grown hg1
  have hext := fun v (ho : w1.ownsRow w.heap.size 5 1 v 0 []) => extend_any v 0 w.heap.size n [] hn rfl (by decide) w1 hb1.size ho
  simp only [List.nil_append] at hext
  match a, h1, hnil with
  | none, _, hnil =>
    obtain ⟨rfl, rfl⟩ := hnil rfl
    go_wp2_with (at_builtin; refine wpList_append_own_none rfl _ _ 66 rfl w.heap.size 5 i0 1 Tryd.underlying66 hi _ _ _ rfl hown1 rfl ?_)
    go_wp2_with (fail)
    refine (hext _ hown1).mono ?_
    rintro e w2 ⟨v2, rfl, hown2, hb2⟩
    obtain ⟨a2, cap2, rfl, _, _⟩ := owned_bytes hown2 rfl
    go_wp2_with (fail)
    go_ret
    exact ⟨a2, cap2, by rw [List.nil_append]; rfl, by rw [List.nil_append]; exact hown2, hb1.trans hb2⟩
  | some x, h1, _ =>
    go_wp2_with (at_builtin; refine wpList_append_own _ rfl _ _ 66 rfl w.heap.size 5 i0 (.int .u8 0) 1 1 Tryd.underlying66 hi hz0 hz1 hz2 rfl (by decide) _ _ _ rfl hown1 x bs.length cap (vals bs) rfl ?c1 ?c2 ?c3 ?c4 ?c5 hb1.size ?_)
    case c1 => simp [vals]
    case c2 => exact bytes_cells h1
    case c3 => exact vals_one
    case c4 => unfold maxLen; omega
    case c5 => omega
    intro v2 w2 hown2 hg2 _
    have hb2 : Below w.heap.size w w2 := hb1.grown hg2 hb1.size (fun q hq => (hown1.lt q hq).1)
    have hown3 : w2.ownsRow w.heap.size 5 1 v2 bs.length (vals bs) := by simpa using hown2
    clear hown1 hown2 hg1 hg2 h h1
    go_wp2_with (fail)
    refine (extend_any _ bs.length w.heap.size n bs hn rfl hbig _ hb2.size hown3).mono ?_
    rintro e w3 ⟨v3, rfl, hown4, hb3⟩
    obtain ⟨a2, cap2, rfl, _, _⟩ := owned_bytes hown4 rfl
    go_wp2_with (fail)
    go_ret
    exact ⟨a2, cap2, by rw [List.length_append]; rfl, hown4, hb2.trans hb3⟩
set_option maxHeartbeats 1000000 in
set_option maxRecDepth 100000 in
theorem refNumber_any (n : Nat) (hn : n < 18446744073709551616) (w : World) :
    Calls Tryd.prog 50 #[.int .u64 n] w fun e w' => ∃ a cap, e = .returned (.slice a (En.enc n).length cap) ∧ w'.ownsRow w.heap.size 5 1 (.slice a (En.enc n).length cap) (En.enc n).length (vals (En.enc n)) ∧ Below w.heap.size w w' := by
  obtain ⟨i0, hi, hz0, hz1, hz2⟩ := info_parts info5
  go_enter Tryd.func50, Tryd.ntmps50
  have hownS : (w.alloc (.cells #[] 5)).ownsRow w.heap.size 5 1 (.slice (some ⟨w.heap.size, 0, none⟩) 0 0) 0 [] := World.ownsRow_made w #[] 0 (Nat.le_refl _) (by unfold maxLen; omega) rfl
  have hbS : Below w.heap.size w (w.alloc (.cells #[] 5)) := (Below.refl _ _).alloc (Nat.le_refl _) _
  have hfirst : Hid (∃ (f q : Nat) (cs : List Nat), Value.int .u64 n = .int .u64 q ∧ q < 2 ^ (7 * f + 1) ∧ cs ++ En.encF f q = En.enc n ∧ cs.length + f + 1 ≤ 10 ∧ (w.alloc (.cells #[] 5)).ownsRow w.heap.size 5 1 (.slice (some ⟨w.heap.size, 0, none⟩) 0 0) cs.length (vals cs) ∧ Below w.heap.size w (w.alloc (.cells #[] 5))) :=
    hidIt ⟨9, n, [], rfl, by simpa using hn, rfl, by simp, hownS, hbS⟩
  clear hownS hbS
  go_wp2
  go_loopw [0, 3] (fun m u wr => Hid (∃ (f q : Nat) (cs : List Nat), m = .int .u64 q ∧ q < 2 ^ (7 * f + 1) ∧ cs ++ En.encF f q = En.enc n ∧ cs.length + f + 1 ≤ 10 ∧ wr.ownsRow w.heap.size 5 1 u cs.length (vals cs) ∧ Below w.heap.size w wr)) (fun m _ _ => (intOf m).toNat)
  case atStart => exact hfirst
  case round =>
    obtain ⟨f, q, cs, rfl, hq, hrel0, hlen, hown, hb⟩ := hrel.out
    have hrel := hidIt hrel0
    clear hrel0 hfirst
    have hb0 : w.heap.size ≤ wr.heap.size := hb.size
    have hq64 : q < 18446744073709551616 := Nat.lt_of_lt_of_le hq (by rw [show (18446744073709551616 : Nat) = 2 ^ 64 by decide]; exact Nat.pow_le_pow_right (by decide) (by omega))
    have hdv : IntKind.u64.wrap ((q : Int) / 128) = (q : Int) / 128 := by rw [IntKind.wrap_u64]; omega
    by_cases hlt : 127 < q
    · obtain ⟨f, rfl⟩ : ∃ g, f = g + 1 := ⟨f - 1, by cases f with | zero => simp at hq; omega | succ f => rfl⟩
      have hor2 : Hid ((((q : Int) % 128) + 128) = ((q % 128 + 128 : Nat) : Int)) := by show _ = _; omega
      have hm1 : IntKind.u8.wrap ((q : Int) % 128) = (q : Int) % 128 := by rw [IntKind.wrap_u8]; omega
      have hm2 : IntKind.u8.wrap ((q : Int) % 128 + 128) = (q : Int) % 128 + 128 := by rw [IntKind.wrap_u8]; omega
      have hn2 : Hid ((cs ++ [q % 128 + 128]) ++ En.encF f (q / 128) = En.enc n) := by
        show _ = _
        rw [← hrel.out, En.encF_step f q (by omega)]; simp
      have hq2 : q / 128 < 2 ^ (7 * f + 1) := by
        rw [Nat.div_lt_iff_lt_mul (by decide)]
        rw [show 7 * (f + 1) + 1 = (7 * f + 1) + 7 by omega, Nat.pow_add] at hq
        simpa using hq
      have hl2 : (cs ++ [q % 128 + 128]).length + f + 1 ≤ 10 := by simp; omega
      have hz : (127 : Int) < (q : Int) := by omega
      clear hrel hq
      go_wp2_with (at_builtin; refine wpList_append_own _ rfl _ _ 66 rfl w.heap.size 5 i0 (.int .u8 0) 1 1 Tryd.underlying66 hi hz0 hz1 hz2 rfl (by decide) _ _ _ rfl (hown.alloc _) ⟨wr.heap.size, 0, none⟩ 1 1 [(.int .u8 ((q : Int) % 128 + 128))] rfl rfl ?c1 ?c2 ?c3 ?c4 ?c5 ?_)
      case c1 =>
        intro j u hj
        match j, hj with
        | 0, hj => simp at hj; subst hj; simp [Addr.add]
      case c2 => intro u hu; simp at hu; subst hu; rfl
      case c3 => unfold maxLen; omega
      case c4 => omega
      case c5 => simp; omega
      intro v' w3 hown3 hg3 _
      have hb3 := (hb.alloc hb0 _).grown hg3 (by simp; omega) (fun q hq => (hown.lt q hq).1)
      rw [hor2.out] at hown3
      have hown4 : w3.ownsRow w.heap.size 5 1 v' (cs ++ [q % 128 + 128]).length (vals (cs ++ [q % 128 + 128])) := by
        rw [← vals_append, List.length_append]; exact hown3
      have hown5 := hidIt hown4
      clear hown hb hg3 hown3 hown4 hor2
      go_wp2
      go_roundw
      case rel => exact hidIt ⟨f, q / 128, _, by simp, hq2, hn2.out, hl2, hown5.out, hb3⟩
      case measure => simp [intOf]; omega
    · have hm1 : IntKind.u8.wrap (q : Int) = (q : Int) := by rw [IntKind.wrap_u8]; omega
      have hn2 : Hid (cs ++ [q] = En.enc n) := by
        show _ = _
        rw [← hrel.out, En.encF_last f q (by omega)]
      have hz : ¬ (127 : Int) < (q : Int) := by omega
      clear hrel hq
      go_wp2_with (at_builtin; refine wpList_append_own _ rfl _ _ 66 rfl w.heap.size 5 i0 (.int .u8 0) 1 1 Tryd.underlying66 hi hz0 hz1 hz2 rfl (by decide) _ _ _ rfl (hown.alloc _) ⟨wr.heap.size, 0, none⟩ 1 1 [(.int .u8 (q : Int))] rfl rfl ?c1 ?c2 ?c3 ?c4 ?c5 ?_)
      case c2 => first | rfl | (intro u hu; simp at hu; subst hu; rfl)
      case c3 => unfold maxLen; omega
      case c4 => omega
      case c5 => first | omega | (simp; omega)
      intro v' w3 hown3 hg3 _
      have hb3 := (hb.alloc hb0 _).grown hg3 (by simp; omega) (fun q hq => (hown.lt q hq).1)
      have hown4 : w3.ownsRow w.heap.size 5 1 v' (En.enc n).length (vals (En.enc n)) := by
        rw [← hn2.out, ← vals_append, List.length_append]; exact hown3
      obtain ⟨a2, cap2, rfl, _, _⟩ := owned_bytes hown4 rfl
      clear hown hb hg3 hown3
      go_wp2
      go_ret
      exact ⟨_, _, rfl, hown4, hb3⟩
end Go.Proofs.YtegfbmekpmdcaaaDoor
