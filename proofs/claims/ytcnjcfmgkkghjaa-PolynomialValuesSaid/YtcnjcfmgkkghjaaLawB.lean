import Derived.Test.YtcnjcfmgkkghjaaDivP
import Derived.Test.YtcnjcfmgkkghjaaPlRing
namespace Go.Proofs.Ytcnjcfmgkkghjaa
open Go.RowKit
theorem nat_u8 {a : Int} (h : (Lit.int .u8 a).wf = true) : ∃ n : Nat, n < 256 ∧ a = n := by
  have := bounds_u8 h
  exact ⟨a.toNat, by omega, by omega⟩
theorem timesT_le {xs ys : List Nat} {a b : Nat} (h : xs.length ≤ a) (k : ys.length ≤ b) : (timesT xs ys).length ≤ a + b := by
  have := timesT_len xs ys; have := Pl.d1_le xs; have := Pl.d1_le ys; omega
theorem trim_le {xs : List Nat} {a : Nat} (h : xs.length ≤ a) : (Pl.trim xs).length ≤ a := by
  rw [Pl.trim_len]; exact Nat.le_trans (Pl.d1_le _) h
theorem plus_le {xs ys : List Nat} {a b : Nat} (h : xs.length ≤ a) (k : ys.length ≤ b) : (Pl.trim (plus xs ys)).length ≤ a + b := by
  refine trim_le ?_
  unfold plus
  rw [Pl.fn_len]; omega
theorem addR_any (a1 a2 : Option Addr) (n1 n2 c1 c2 : Nat) (xs ys : List Nat) (hn : n1 = xs.length) (hm : n2 = ys.length) (hx : ∀ i, xs.getD i 0 < 256) (hy : ∀ i, ys.getD i 0 < 256) (hb1 : n1 ≤ 500) (hb2 : n2 ≤ 500) (w : World) (h1 : Bytes w a1 xs) (h2 : Bytes w a2 ys) :
    Calls Try.prog 32 #[.slice a1 n1 c1, .slice a2 n2 c2] w fun e w' => (∃ a m c, e = .returned (.slice a m c) ∧ m = (Pl.trim (plus xs ys)).length ∧ Bytes w' a (Pl.trim (plus xs ys))) ∧ Below w.heap.size w w' := by
  refine (add2_any a1 a2 n1 n2 c1 c2 xs ys hn hm hx hy (by omega) (by omega) w h1 h2).mono fun e w' ⟨⟨v, h, k⟩, l⟩ => ?_
  obtain ⟨g, rfl, _, _, hb⟩ := k.at _ rfl
  exact ⟨⟨_, _, _, h, rfl, hb⟩, l⟩
theorem trimR_any (a1 : Option Addr) (n1 c1 : Nat) (xs : List Nat) (hn : n1 = xs.length) (hx : ∀ i, xs.getD i 0 < 256) (hb1 : n1 ≤ 500) (w : World) (h1 : Bytes w a1 xs) :
    Calls Try.prog 28 #[.slice a1 n1 c1] w fun e w' => (∃ a m c, e = .returned (.slice a m c) ∧ m = (Pl.trim xs).length ∧ Bytes w' a (Pl.trim xs)) ∧ Below w.heap.size w w' := by
  refine (trim2_any a1 n1 c1 xs hn hx (by omega) w h1).mono fun e w' ⟨⟨v, h, k⟩, l⟩ => ?_
  obtain ⟨g, rfl, _, _, hb⟩ := k.at _ rfl
  exact ⟨⟨_, _, _, h, rfl, hb⟩, l⟩
theorem many3_any (w : World) (a0 a1 a2 : Option Addr) (l0 c0 l1 c1 l2 c2 : Nat) (t : TypeId) (v : Bool) (hv : decide (30 < l0 ∨ 30 < l1 ∨ 30 < l2) = v) :
    Calls Try.prog 25 #[.slice (some ⟨w.heap.size, 0, none⟩) 3 3] (w.alloc (.cells #[.slice a0 l0 c0, .slice a1 l1 c1, .slice a2 l2 c2] t)) fun e w' => e = .returned (.bool v) ∧ Below w.heap.size w w' := by
  refine (many_any w.heap.size 3 3 (fun j => if j = 0 then a0 else if j = 1 then a1 else a2) (fun j => if j = 0 then l0 else if j = 1 then l1 else l2) (fun j => if j = 0 then c0 else if j = 1 then c1 else c2) v ?_ ?_ (by decide) _ ?_).mono fun _ _ ⟨h, k⟩ => ⟨h, k ▸ (Below.refl _ w).alloc (Nat.le_refl _) _⟩
  · intro h
    rw [h] at hv
    rcases of_decide_eq_true hv with h1 | h1 | h1
    · exact ⟨0, by decide, h1⟩
    · exact ⟨1, by decide, h1⟩
    · exact ⟨2, by decide, h1⟩
  · intro h j hj
    rw [h] at hv
    have h1 := of_decide_eq_false hv
    show (if j = 0 then l0 else if j = 1 then l1 else l2) ≤ 30
    split
    · omega
    · split <;> omega
  · intro j hj
    rw [(Blk.new w t _).cell]
    match j, hj with
    | 0, _ => rfl
    | 1, _ => rfl
    | 2, _ => rfl
end Go.Proofs.Ytcnjcfmgkkghjaa
