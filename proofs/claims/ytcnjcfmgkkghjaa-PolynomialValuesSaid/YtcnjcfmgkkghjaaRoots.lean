import Derived.Test.YtcnjcfmgkkghjaaSame6
import Derived.Test.YtcnjcfmgkkghjaaAppB
namespace Go.Proofs.Ytcnjcfmgkkghjaa
open Go.RowKit
theorem own_belowP {w w' : World} {base size n : Nat} {e : TypeId} {v : Value} {xs : List Value} (h : w.ownsRow base e size v n xs) (hb : Below w.heap.size w w') : w'.ownsRow base e size v n xs := h.kept (below_grownBy none hb) (Classical.em _ |>.imp id id)
/-- the roots below k, ascending -/
def rootsL (xs : List Nat) (k : Nat) : List Nat := (List.range k).filter (fun x => Pl.hor x xs == 0)
theorem rootsL_succ (xs : List Nat) (k : Nat) : rootsL xs (k + 1) = rootsL xs k ++ (if Pl.hor k xs = 0 then [k] else []) := by
  unfold rootsL
  rw [List.range_succ, List.filter_append]
  congr 1
  by_cases h : Pl.hor k xs = 0 <;> simp [h]
theorem rootsL_len (xs : List Nat) (k : Nat) : (rootsL xs k).length ≤ k := by
  have := List.length_filter_le (fun x => Pl.hor x xs == 0) (List.range k)
  rw [List.length_range] at this
  exact this
set_option maxRecDepth 100000 in
theorem roots_any (a : Option Addr) (n c : Nat) (xs : List Nat) (hn : n = xs.length) (hx : ∀ i, xs.getD i 0 < 256) (hbig : n ≤ 140737488351232) (h0 : 0 < Pl.d1 xs) (w : World) (h : Bytes w a xs) :
    Calls Try.prog 11 #[.slice a n c] w fun e w' => (∃ a' n' c', e = .returned (.tuple #[.slice a' n' c', .int .i64 0]) ∧ n' = (rootsL xs 256).length ∧ Bytes w' a' (rootsL xs 256)) ∧ Below w.heap.size w w' := by
  obtain ⟨d, hd⟩ : ∃ d, Hid (Pl.d1 xs = d + 1) := ⟨Pl.d1 xs - 1, by show _ = _; omega⟩
  have hok : Hid (Pl.Ok xs) := fun y hy => by
    obtain ⟨i, hi, rfl⟩ := List.getElem_of_mem hy
    have := hx i
    rw [List.getD_eq_getElem?_getD, List.getElem?_eq_getElem hi] at this
    exact this
  have n2 := hidIt hn
  have x2 := hidIt hx
  have i2 := hidIt h
  have nb : Hid (n ≤ 140737488355328) := by show _ ≤ _; omega
  clear hn hx h h0
  go_enter Try.func11, Try.ntmps11
  go_wp2_with (fail)
  refine (degree_any _ _ _ xs n2.out x2.out nb.out _ i2.out).mono ?_
  rintro e w1 ⟨rfl, rfl⟩
  rw [hd.out, show (((d + 1 : Nat) : Int) - 1) = (d : Int) by omega]
  go_wp2_with (fail)
  go_loopw [9, 5, 4] (fun i _ v wr => ∃ (k m : Nat) (a' : Option Addr) (c' : Nat), k ≤ 256 ∧ i = .int .i64 k ∧ v = .slice a' m c' ∧ Hid (m = (rootsL xs k).length) ∧ Hid (wr.ownsRow w.heap.size 5 1 (.slice a' m c') m (vals (rootsL xs k))) ∧ Hid (Below w.heap.size w wr)) (fun i _ _ _ => 256 - (intOf i).toNat)
  case atStart => exact ⟨0, 0, none, 0, by omega, rfl, rfl, rfl, World.ownsRow_nil _ _ _ _, Below.refl _ _⟩
  case round =>
    obtain ⟨k, m, a', c', hk, rfl, rfl, hm, hown, hb⟩ := hrel
    by_cases hlt : k < 256
    · have hw : IntKind.u8.wrap (k : Int) = (k : Int) := by rw [IntKind.wrap_u8]; omega
      have hlt2 : (k : Int) < 256 := by omega
      go_wp2_with (fail)
      refine (eval_any _ _ _ k xs n2.out x2.out hlt hbig wr (i2.out.below hb.out)).mono ?_
      rintro e w2 ⟨rfl, hb2⟩
      have hown2 := hidIt (own_belowP hown.out hb2)
      have hbw : Below w.heap.size w w2 := hb.out.trans (hb2.mono hb.out.size)
      have hbw2 := hidIt hbw
      obtain ⟨y, hy⟩ : ∃ y, Hid (Pl.hor k xs = y) := ⟨_, rfl⟩
      rw [hy.out]
      clear hb2 hown hb
      by_cases hy0 : y = 0
      · subst hy0
        have hml : Hid (m + 1 ≤ 140737488355328) := by have := hm.out; have := rootsL_len xs k; show _ ≤ _; omega
        clear hbw
        go_wp2_with (at_builtin; refine wpList_append_byte w w2 rfl _ _ rfl (.slice a' m c') m (rootsL xs k) rfl hm.out hown2.out _ k rfl rfl hml.out hbw2.out ?_)
        intro a6 c6 w6 hown6 hb6
        have hs : rootsL xs k ++ [k] = rootsL xs (k + 1) := by rw [rootsL_succ, hy.out, if_pos rfl]
        rw [hs] at hown6
        have hown7 := hidIt hown6
        have hb7 := hidIt hb6
        have hm7 : Hid (m + 1 = (rootsL xs (k + 1)).length) := by show _ = _; rw [← hs, List.length_append, ← hm.out]; rfl
        clear hown6 hb6 hs
        go_wp2
        go_roundw
        case rel => exact ⟨k + 1, m + 1, a6, c6, by omega, by go_num, rfl, hm7.out, hown7.out, hb7.out⟩
        case measure => simp [intOf]; omega
      · have hne : ((y : Int) == 0) = false := by simp; omega
        have hs : rootsL xs (k + 1) = rootsL xs k := by rw [rootsL_succ, hy.out, if_neg hy0, List.append_nil]
        have hown7 : Hid (w2.ownsRow w.heap.size 5 1 (.slice a' m c') m (vals (rootsL xs (k + 1)))) := by show World.ownsRow _ _ _ _ _ _ _; rw [hs]; exact hown2.out
        have hm7 : Hid (m = (rootsL xs (k + 1)).length) := by show _ = _; rw [hs]; exact hm.out
        clear hs hbw
        go_wp2
        go_roundw
        case rel => exact ⟨k + 1, m, a', c', by omega, by go_num, rfl, hm7.out, hown7.out, hbw2.out⟩
        case measure => simp [intOf]; omega
    · obtain rfl : k = 256 := by omega
      go_wp2
      go_ret2
      obtain ⟨a2, c2, hv, hby, _⟩ := owned_bytes hown.out hm.out
      refine ⟨⟨_, _, _, rfl, hm.out, ?_⟩, hb.out⟩
      cases hv
      exact hby
end Go.Proofs.Ytcnjcfmgkkghjaa
