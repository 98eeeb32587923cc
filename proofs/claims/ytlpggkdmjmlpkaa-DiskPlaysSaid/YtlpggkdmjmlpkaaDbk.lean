import Derived.Test.YtlpggkdmjmlpkaaDn
import Derived.RangeFuncNested
import Derived.RangeFuncBound
import Derived.RangeFuncCalls
import Derived.RangeFuncLeaves
import Derived.RangeFuncBox
import Derived.Shelf.Abstract
import Derived.Shelf.RegionOpen
import Derived.WalkKit
import Derived.OwnWalkIn
import Derived.TacticsInMore
import Derived.LoopNIn
import Derived.LoopIn
namespace Go.Proofs.Ytlpggkdmjmlpkaa
open Go.RowKit Go.Shelf
attribute [local go_sem] Oper.semAt_some
/-- what a round of the caller keeps: all blocks below n₀ and the iterator's own box -/
def Kb (n₀ Bs : Nat) (W W' : World) : Prop := Below n₀ W W' ∧ W'.heap[Bs]? = W.heap[Bs]?
theorem Kb.t {n₀ Bs : Nat} {A B C : World} (h : Kb n₀ Bs A B) (k : Kb n₀ Bs B C) : Kb n₀ Bs A C := ⟨h.1.trans k.1, k.2.trans h.2⟩
theorem Kb.b {n₀ Bs : Nat} {w : World} (hn : n₀ ≤ w.heap.size) (hB : Bs < w.heap.size) (W : World) (l : Nat) (o o' : Obj) (hl : w.heap.size ≤ l) (h : W.heap[l]? = some o) (h1 : o.isCells = false) (h2 : o.isWalk = false) : Kb n₀ Bs W (W.putObj l o') :=
  ⟨belowK_b hn W l o o' hl h h1 h2, (belowK_b (Nat.le_refl _) W l o o' hl h h1 h2).block Bs hB⟩
/-- the numbers from n - 1 down, k of them -/
def downs (n k : Nat) : List Nat := (List.range k).map fun i => n - 1 - i
theorem downs_succ (n k : Nat) : downs n (k + 1) = downs n k ++ [n - 1 - k] := by simp [downs, List.range_succ]
theorem downs_len (n k : Nat) : (downs n k).length = k := by simp [downs]
theorem downs_mem (n k i : Nat) (hk : k ≤ n) : i ∈ downs n k ↔ n - k ≤ i ∧ i < n := by
  simp only [downs, List.mem_map, List.mem_range]
  constructor
  · rintro ⟨j, hj, rfl⟩; omega
  · intro h; exact ⟨n - 1 - i, by omega, by omega⟩
abbrev Ix' (n : Nat) : Type := { j : Nat // j < n }
def encW (s p : Nat → Nat) (z : Nat) {n : Nat} (x : Ix' n) : Array Value := #[.int .i64 (x.1 : Int), .agg #[.int .i64 (s x.1 : Int), .slice (some ⟨p x.1, 0, none⟩) z z]]
set_option maxRecDepth 100000 in
set_option maxHeartbeats 2000000 in
theorem backw1_in (F : Fence) (n : Nat) (hf : F.fn 46) (hro : F.round = none) (hn : 1 ≤ n) (l Bs n₀ : Nat) (a : Option Addr) (len cap : Nat) (s p : Nat → Nat) (z : Nat) (hreach : len ≤ 1000000) (J Jx : List (Ix' len) → World → Prop)
    (hY : ∀ pre x W, J pre W → pre.length < len → YieldAt F (n - 1) Try.prog l (encW s p z x) W fun e W' =>
      (e = .returned (.bool true) ∧ J (pre ++ [x]) W' ∧ Kb n₀ Bs W W') ∨ (e = .returned (.bool false) ∧ Jx (pre ++ [x]) W'))
    (W : World) (hBs : W.cell? ⟨Bs, 0, none⟩ = some (.slice a len cap)) (hc : ∀ j, j < len → ∃ b, a = some ⟨b, 0, none⟩ ∧ b < n₀ ∧ W.cell? ⟨b, j * 2, none⟩ = some (.int .i64 (s j : Int)) ∧ W.cell? ⟨b, j * 2 + 1, none⟩ = some (.slice (some ⟨p j, 0, none⟩) z z)) (h0 : J [] W) :
    CallsIn F n Try.prog 46 #[.func (.yield l) #[] #[], .pointer (some ⟨Bs, 0, none⟩)] W fun e W' => (∃ v, e = .returned v) ∧
      ((∃ ys, ys.map (·.1) = downs len len ∧ J ys W') ∨ (∃ pre, (∃ k, k ≤ len ∧ pre.map (·.1) = downs len k) ∧ Jx pre W')) := by
  refine callsIn_of_wp Try.func46 rfl hf ?_ hro
  simp only [Try.ntmps46, List.size_toArray, List.length_cons, List.length_nil, Nat.reduceAdd, Nat.reduceSub, Array.replicate_succ, Array.replicate_zero, List.push_toArray, List.append_toArray, List.nil_append, List.cons_append]
  have hc' := hidIt hc
  clear hc
  gi_wp2
  gi_loopw [3] (fun i wr => ∃ r : Nat, r ≤ len ∧ i = .int .i64 ((r : Int) - 1) ∧ (∃ pre, pre.map (·.1) = downs len (len - r) ∧ J pre wr) ∧ Hid (Kb n₀ Bs W wr))
    (fun i _ => (intOf i + 1).toNat)
  case atStart => exact ⟨len, Nat.le_refl _, rfl, ⟨[], by rw [Nat.sub_self]; rfl, h0⟩, ⟨Below.refl _ _, rfl⟩⟩
  case round =>
    obtain ⟨r, hr, rfl, ⟨pre, hpre, hJs⟩, hnx⟩ := hrel
    have hbx : wr.cell? ⟨Bs, 0, none⟩ = some (.slice a len cap) := (World.cell?_of_block (a := ⟨Bs, 0, none⟩) (show wr.heap[Bs]? = W.heap[Bs]? from hnx.out.2)).trans hBs
    have hpre' := hidIt hpre
    clear hpre
    cases r with
    | zero =>
      gi_wp2
      go_end0
      exact ⟨⟨_, rfl⟩, .inl ⟨pre, by have := hpre'.out; rw [Nat.sub_zero] at this; exact this, hJs⟩⟩
    | succ m =>
      obtain ⟨b, rfl, hb, hc0, hc1⟩ := hc'.out m (by omega)
      have hx0 : wr.cell? ⟨b, m * 2, none⟩ = some (.int .i64 (s m : Int)) := (hnx.out.1.cell (p := ⟨b, m * 2, none⟩) hb).trans hc0
      have hx1 : wr.cell? ⟨b, m * 2 + 1, none⟩ = some (.slice (some ⟨p m, 0, none⟩) z z) := (hnx.out.1.cell (p := ⟨b, m * 2 + 1, none⟩) hb).trans hc1
      have hup : Hid ((pre ++ [(⟨m, by omega⟩ : Ix' len)]).map (·.1) = downs len (len - m)) := by
        show _ = _
        rw [List.map_append, hpre'.out, show len - m = (len - (m + 1)) + 1 by omega, downs_succ, List.map_singleton]
        congr 2
        show m = _
        omega
      obtain ⟨fn, tmps, assign, body, hy, hR⟩ := hY pre ⟨m, by omega⟩ wr hJs (by
        have := congrArg List.length hpre'.out
        rw [List.length_map, downs_len] at this
        omega)
      simp only [encW] at hy
      have e3 : ((m + 1 : Nat) : Int) - 1 = (m : Int) := by omega
      have e4 : (m : Int) < (len : Int) := by omega
      rw [e3]
      clear hc0 hc1
      gi_wp2
      refine hR.mono ?_
      rintro e W3 (⟨rfl, hJ3, hk3⟩ | ⟨rfl, hJx3⟩)
      · gi_wp2
        go_roundw
        case rel => exact ⟨m, by omega, rfl, ⟨_, hup.out, hJ3⟩, hnx.out.t hk3⟩
        case measure => simp [intOf]
      · gi_wp2
        refine bodyPost_ret (results_none rfl _ _ _) rfl ?_
        exact ⟨⟨_, rfl⟩, .inr ⟨_, ⟨len - m, by omega, hup.out⟩, hJx3⟩⟩
set_option maxHeartbeats 1000000 in
theorem backw_in (F : Fence) (n : Nat) (hf : F.fn 40) (hro : F.round = none) (a : Option Addr) (len cap : Nat) (w : World) :
    CallsIn F n Try.prog 40 #[.slice a len cap] w fun e w' => e = .returned (.func (.func 46) #[] #[.pointer (some ⟨w.heap.size, 0, none⟩)]) ∧ w' = w.alloc (.cells #[.slice a len cap] 60) := by
  refine callsIn_of_wp Try.func40 rfl hf ?_ hro
  simp only [Try.ntmps40, List.size_toArray, List.length_cons, List.length_nil, Nat.reduceAdd, Nat.reduceSub, Array.replicate_succ, Array.replicate_zero, List.push_toArray, List.append_toArray, List.nil_append, List.cons_append]
  gi_wp2
  go_ret
  exact ⟨rfl, rfl⟩
theorem backw_stops (F : Fence) (n : Nat) (hf : F.fn 46) (hro : F.round = none) (hn : 1 ≤ n) (Bs n₀ : Nat) (a : Option Addr) (len cap : Nat) (s p : Nat → Nat) (z : Nat) (hreach : len ≤ 1000000) (w : World) (hBs : Bs < w.heap.size) (hn₀ : n₀ ≤ w.heap.size)
    (hb : w.cell? ⟨Bs, 0, none⟩ = some (.slice a len cap)) (hc : ∀ j, j < len → ∃ b, a = some ⟨b, 0, none⟩ ∧ b < n₀ ∧ w.cell? ⟨b, j * 2, none⟩ = some (.int .i64 (s j : Int)) ∧ w.cell? ⟨b, j * 2 + 1, none⟩ = some (.slice (some ⟨p j, 0, none⟩) z z)) :
    SeqStopsK F n Try.prog 46 #[.pointer (some ⟨Bs, 0, none⟩)] (fun x : Ix' len => encW s p z x) (Kb n₀ Bs) (fun ys => ys.map (·.1) = downs len len)
      (fun pre => ∃ k, k ≤ len ∧ pre.map (·.1) = downs len k) len w := fun l J Jx W hW _ _ hY h0 =>
  backw1_in F n hf hro hn l Bs n₀ a len cap s p z hreach J Jx hY W ((hW.cell (p := ⟨Bs, 0, none⟩) hBs).trans hb) (fun j hj => by
    obtain ⟨b, h1, h2, h3, h4⟩ := hc j hj
    exact ⟨b, h1, h2, (hW.cell (p := ⟨b, j * 2, none⟩) (by show b < _; omega)).trans h3, (hW.cell (p := ⟨b, j * 2 + 1, none⟩) (by show b < _; omega)).trans h4⟩) h0
end Go.Proofs.Ytlpggkdmjmlpkaa
