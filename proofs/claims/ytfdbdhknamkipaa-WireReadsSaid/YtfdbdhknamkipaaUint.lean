import Derived.Test.YtfdbdhknamkipaaAwake2
import Derived.OwnWalk
import Derived.Laws.AppendOwnNone
namespace Go.Proofs.Ytfdbdhknamkipaa
open Go.RowKit
theorem Bytes.grown {w wr : World} {a : Option Addr} {bs : List Nat} (h : Bytes w a bs) (hg : w.grownBy wr none) : Bytes wr a bs := by
  intro i hi
  obtain ⟨b, off, h2, h3⟩ := h i hi
  exact ⟨b, off, h2, hg.cell h3 (by simp)⟩
theorem bytes_cells {w : World} {x : Addr} {bs : List Nat} (h : Bytes w (some x) bs) : ∀ j u, (vals bs)[j]? = some u → w.cell? (x.add j) = some u := by
  intro j u hj
  by_cases hjl : j < bs.length
  · obtain ⟨b, off, hx, hc⟩ := h j hjl
    simp only [Option.some.injEq] at hx
    subst hx
    have hu : u = .int .u8 ((bs.getD j 0 : Nat) : Int) := by
      have : (vals bs)[j]? = some (.int .u8 ((bs.getD j 0 : Nat) : Int)) := by simp [vals, List.getD, hjl]
      rw [this] at hj; exact (Option.some.inj hj).symm
    subst hu
    have hadd : (⟨b, off, none⟩ : Addr).add j = ⟨b, off + j, none⟩ := by unfold Addr.add; split <;> simp_all
    rw [hadd]
    exact hc
  · rw [List.getElem?_eq_none (by simp [vals]; omega)] at hj; cases hj
theorem vals_one {bs : List Nat} : ∀ u ∈ vals bs, u.oneCell' = true := by
  intro u hu
  simp only [vals, List.mem_map] at hu
  obtain ⟨b, _, rfl⟩ := hu
  rfl
set_option maxHeartbeats 1000000 in
set_option maxRecDepth 100000 in
theorem refNumber_any (n : Nat) (hn : n < 18446744073709551616) (w : World) :
    Calls Try.prog 31 #[.int .u64 n] w fun e w' => ∃ a cap, e = .returned (.slice a (En.enc n).length cap) ∧ w'.ownsRow w.heap.size 5 1 (.slice a (En.enc n).length cap) (En.enc n).length (vals (En.enc n)) ∧ Below w.heap.size w w' := by
  obtain ⟨i0, hi, hz0, hz1, hz2⟩ := info_parts info5
  go_enter Try.func31, Try.ntmps31
  have hownS : (w.alloc (.cells #[] 5)).ownsRow w.heap.size 5 1 (.slice (some ⟨w.heap.size, 0, none⟩) 0 0) 0 [] := World.ownsRow_made w #[] 0 (Nat.le_refl _) (by unfold maxLen; omega) rfl
  have hbS : Below w.heap.size w (w.alloc (.cells #[] 5)) := (Below.refl _ _).alloc (Nat.le_refl _) _
  have hfirst : Hid (∃ (f q : Nat) (cs : List Nat), Value.int .u64 n = .int .u64 q ∧ q < 2 ^ (7 * f + 1) ∧ cs ++ En.encF f q = En.enc n ∧ cs.length + f + 1 ≤ 10 ∧ (w.alloc (.cells #[] 5)).ownsRow w.heap.size 5 1 (.slice (some ⟨w.heap.size, 0, none⟩) 0 0) cs.length (vals cs) ∧ Below w.heap.size w (w.alloc (.cells #[] 5))) :=
    hidIt ⟨9, n, [], rfl, by simpa using hn, rfl, by simp, hownS, hbS⟩
  clear hownS hbS
  go_wp2
  go_loopw [0, 3] (fun m u wr => Hid (∃ (f q : Nat) (cs : List Nat), m = .int .u64 q ∧ q < 2 ^ (7 * f + 1) ∧ cs ++ En.encF f q = En.enc n ∧ cs.length + f + 1 ≤ 10 ∧ wr.ownsRow w.heap.size 5 1 u cs.length (vals cs) ∧ Below w.heap.size w wr)) (fun m _ _ => (intOf m).toNat)
  case atStart => exact hfirst
  case round =>
    obtain ⟨f, q, cs, rfl, hq, hrel0, hlen, hown, hb⟩ := hrel.out
    have hrel := hidIt hrel0
    clear hrel0 hfirst
    have hb0 : w.heap.size ≤ wr.heap.size := hb.size
    have hq64 : q < 18446744073709551616 := Nat.lt_of_lt_of_le hq (by rw [show (18446744073709551616 : Nat) = 2 ^ 64 by decide]; exact Nat.pow_le_pow_right (by decide) (by omega))
    have hdv : IntKind.u64.wrap ((q : Int) / 128) = (q : Int) / 128 := by rw [IntKind.wrap_u64]; omega
    by_cases hlt : 127 < q
    · obtain ⟨f, rfl⟩ : ∃ g, f = g + 1 := ⟨f - 1, by cases f with | zero => simp at hq; omega | succ f => rfl⟩
      have hor2 : Hid ((((q : Int) % 128) + 128) = ((q % 128 + 128 : Nat) : Int)) := by show _ = _; omega
      have hm1 : IntKind.u8.wrap ((q : Int) % 128) = (q : Int) % 128 := by rw [IntKind.wrap_u8]; omega
      have hm2 : IntKind.u8.wrap ((q : Int) % 128 + 128) = (q : Int) % 128 + 128 := by rw [IntKind.wrap_u8]; omega
      have hn2 : Hid ((cs ++ [q % 128 + 128]) ++ En.encF f (q / 128) = En.enc n) := by
        show _ = _
        rw [← hrel.out, En.encF_step f q (by omega)]; simp
      have hq2 : q / 128 < 2 ^ (7 * f + 1) := by
        rw [Nat.div_lt_iff_lt_mul (by decide)]
        rw [show 7 * (f + 1) + 1 = (7 * f + 1) + 7 by omega, Nat.pow_add] at hq
        simpa using hq
      have hl2 : (cs ++ [q % 128 + 128]).length + f + 1 ≤ 10 := by simp; omega
      have hz : (127 : Int) < (q : Int) := by omega
      clear hrel hq
      go_wp2_with (at_builtin; refine wpList_append_own _ rfl _ _ 25 rfl w.heap.size 5 i0 (.int .u8 0) 1 1 Try.underlying25 hi hz0 hz1 hz2 rfl (by decide) _ _ _ rfl (hown.alloc _) ⟨wr.heap.size, 0, none⟩ 1 1 [(.int .u8 ((q : Int) % 128 + 128))] rfl rfl ?c1 ?c2 ?c3 ?c4 ?c5 ?_)
      case c1 =>
        intro j u hj
        match j, hj with
        | 0, hj => simp at hj; subst hj; simp [Addr.add]
      case c2 => intro u hu; simp at hu; subst hu; rfl
      case c3 => unfold maxLen; omega
      case c4 => omega
      case c5 => simp; omega
      intro v' w3 hown3 hg3 _
      have hb3 := (hb.alloc hb0 _).grown hg3 (by simp; omega) (fun q hq => (hown.lt q hq).1)
      rw [hor2.out] at hown3
      have hown4 : w3.ownsRow w.heap.size 5 1 v' (cs ++ [q % 128 + 128]).length (vals (cs ++ [q % 128 + 128])) := by
        rw [← vals_append, List.length_append]; exact hown3
      have hown5 := hidIt hown4
      clear hown hb hg3 hown3 hown4 hor2
      go_wp2
      go_roundw
      case rel => exact hidIt ⟨f, q / 128, _, by simp, hq2, hn2.out, hl2, hown5.out, hb3⟩
      case measure => simp [intOf]; omega
    · have hm1 : IntKind.u8.wrap (q : Int) = (q : Int) := by rw [IntKind.wrap_u8]; omega
      have hn2 : Hid (cs ++ [q] = En.enc n) := by
        show _ = _
        rw [← hrel.out, En.encF_last f q (by omega)]
      have hz : ¬ (127 : Int) < (q : Int) := by omega
      clear hrel hq
      go_wp2_with (at_builtin; refine wpList_append_own _ rfl _ _ 25 rfl w.heap.size 5 i0 (.int .u8 0) 1 1 Try.underlying25 hi hz0 hz1 hz2 rfl (by decide) _ _ _ rfl (hown.alloc _) ⟨wr.heap.size, 0, none⟩ 1 1 [(.int .u8 (q : Int))] rfl rfl ?c1 ?c2 ?c3 ?c4 ?c5 ?_)
      case c2 => first | rfl | (intro u hu; simp at hu; subst hu; rfl)
      case c3 => unfold maxLen; omega
      case c4 => omega
      case c5 => first | omega | (simp; omega)
      intro v' w3 hown3 hg3 _
      have hb3 := (hb.alloc hb0 _).grown hg3 (by simp; omega) (fun q hq => (hown.lt q hq).1)
      have hown4 : w3.ownsRow w.heap.size 5 1 v' (En.enc n).length (vals (En.enc n)) := by
        rw [← hn2.out, ← vals_append, List.length_append]; exact hown3
      obtain ⟨a2, cap2, rfl, _, _⟩ := owned_bytes hown4 rfl
      clear hown hb hg3 hown3
      go_wp2
      go_ret
      exact ⟨_, _, rfl, hown4, hb3⟩
theorem refZigzag_any (n : Int) (h1 : -9223372036854775808 ≤ n) (h2 : n ≤ 9223372036854775807) (w : World) :
    Calls Try.prog 32 #[.int .i64 n] w fun e w' => e = .returned (.int .u64 (zig n)) ∧ w = w' := by
  by_cases hn : n < 0
  · obtain ⟨m, hm⟩ : ∃ m : Nat, -n - 1 = m := ⟨(-n - 1).toNat, by omega⟩
    obtain rfl : n = -(m : Int) - 1 := by omega
    have hz : Hid (zig (-(m : Int) - 1) = 2 * m + 1) := by show _ = _; unfold zig; rw [if_pos hn]; omega
    have hge : ¬ (0 : Int) ≤ -(m : Int) - 1 := by omega
    clear hn hm
    go_enter Try.func32, Try.ntmps32
    go_wp2_with (fail)
    all_goals (go_ret; exact ⟨ret_int (by rw [hz.out]; omega), rfl⟩)
  · have hz : Hid ((zig n : Int) = 2 * n) := by show _ = _; unfold zig; rw [if_neg hn]; omega
    have hge : (0 : Int) ≤ n := by omega
    clear hn
    go_enter Try.func32, Try.ntmps32
    go_wp2_with (fail)
    go_ret
    exact ⟨ret_int (by rw [hz.out]), rfl⟩
theorem refUnzigzag_any (n : Nat) (h : n < 18446744073709551616) (w : World) :
    Calls Try.prog 63 #[.int .u64 n] w fun e w' => e = .returned (.int .i64 (unzig n)) ∧ w = w' := by
  by_cases hn : n % 2 = 1
  · have ha : (n : Int) % 2 = 1 := by omega
    have hz : Hid (unzig n = -((n : Int) / 2) - 1) := by show _ = _; unfold unzig; rw [if_pos hn]; simp
    clear hn
    go_enter Try.func63, Try.ntmps63
    go_wp2_with (fail)
    all_goals (go_ret; exact ⟨ret_int (by rw [hz.out]), rfl⟩)
  · have ha : (n : Int) % 2 = 0 := by omega
    have hz : Hid (unzig n = (n : Int) / 2) := by show _ = _; unfold unzig; rw [if_neg hn]; simp
    clear hn
    go_enter Try.func63, Try.ntmps63
    go_wp2_with (fail)
    all_goals (go_ret; exact ⟨ret_int (by rw [hz.out]), rfl⟩)
theorem unzig_zig (k : Int) : unzig (zig k) = k := by unfold unzig zig; split <;> split <;> omega
theorem zig_unzig (n : Nat) : zig (unzig n) = n := by unfold unzig zig; split <;> split <;> omega
theorem nat_u64 {a : Int} (h : (Lit.int .u64 a).wf = true) : ∃ n : Nat, n < 18446744073709551616 ∧ a = n := by
  have := bounds_u64 h
  exact ⟨a.toNat, by omega, by omega⟩
end Go.Proofs.Ytfdbdhknamkipaa
