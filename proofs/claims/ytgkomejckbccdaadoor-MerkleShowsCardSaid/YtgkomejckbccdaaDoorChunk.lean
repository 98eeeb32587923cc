import Derived.Test.YtgkomejckbccdaaDoorMer
import Derived.RangeFuncNested
import Derived.RangeFuncBound
import Derived.RangeFuncCalls
import Derived.RangeFuncLeaves
import Derived.RangeFuncBox
import Derived.Shelf.Abstract
import Derived.Shelf.RegionOpen
import Derived.WalkKit
import Derived.OwnWalkIn
import Derived.TacticsInMore
import Derived.LoopNIn
import Derived.LoopIn
namespace Go.Proofs.YtgkomejckbccdaaDoor
open Go.RowKit Go.Shelf
attribute [local go_sem] Oper.semAt_some
/-- what a round of the caller keeps: all blocks below n₀ and the iterator's two boxes -/
def Kc (n₀ Bs Bn : Nat) (W W' : World) : Prop := Below n₀ W W' ∧ W'.heap[Bs]? = W.heap[Bs]? ∧ W'.heap[Bn]? = W.heap[Bn]?
theorem Kc.t {n₀ Bs Bn : Nat} {A B C : World} (h : Kc n₀ Bs Bn A B) (k : Kc n₀ Bs Bn B C) : Kc n₀ Bs Bn A C := ⟨h.1.trans k.1, k.2.1.trans h.2.1, k.2.2.trans h.2.2⟩
/-- how many blocks there are -/
def rounds (len sz : Nat) : Nat := if len = 0 then 0 else (len - 1) / sz + 1
def adr (a : Option Addr) (sz k : Nat) : Option Addr := a.map fun x => x.add (k * sz)
def bln (len sz k : Nat) : Nat := min sz (len - k * sz)
theorem rounds_lt {len sz k : Nat} (hs : 1 ≤ sz) (h : k * sz < len) : k < rounds len sz := by
  unfold rounds
  rw [if_neg (by omega)]
  have : k ≤ (len - 1) / sz := (Nat.le_div_iff_mul_le (by omega)).2 (by omega)
  omega
theorem rounds_end {len sz k : Nat} (hs : 1 ≤ sz) (hk : k ≤ rounds len sz) (h : ¬ k * sz < len) : k = rounds len sz := by
  unfold rounds at hk ⊢
  by_cases h0 : len = 0
  · rw [if_pos h0] at hk ⊢; omega
  · rw [if_neg h0] at hk ⊢
    have h1 : (len - 1) / sz < k := by
      rw [Nat.div_lt_iff_lt_mul (by omega)]; omega
    omega
theorem sliceBLHM (a : Option Addr) (n cap lo hi : Nat) (h1 : lo < hi) (h2 : hi ≤ cap) (W : World) :
    (Instr.slice 22 (.slice a n cap) (some (.int .i64 (lo : Int))) (some (.int .i64 (hi : Int))) (some (.int .i64 (hi : Int)))).run Tryd.prog W = .ok (.slice (a.map fun x => x.add lo) (hi - lo) (hi - lo)) W := by
  have h := run_slice_lhm W 22 a n cap (P := Tryd.prog) (by kernel_rfl) .i64 .i64 .i64 (lo : Int) (hi : Int) (hi : Int) (by omega) (by omega) (by omega) (by omega)
  rw [h]
  have e2 : (sizeOf (Tryd.prog.elem 22)).run Tryd.prog W = .ok 1 W := by kernel_rfl
  rw [e2]
  simp only [Result.andThen, sliced, Int.toNat_natCast, Nat.mul_one]
  rw [if_neg (by omega)]
theorem sliceBL (a : Option Addr) (n cap lo : Nat) (h1 : lo ≤ n) (W : World) :
    (Instr.slice 22 (.slice a n cap) (some (.int .i64 (lo : Int))) none none).run Tryd.prog W = .ok (.slice (if cap = lo then a else a.map fun x => x.add lo) (n - lo) (cap - lo)) W := by
  have h := run_slice_l W 22 a n cap (P := Tryd.prog) (by kernel_rfl) .i64 (lo : Int) (by omega) (by omega)
  rw [h]
  have e2 : (sizeOf (Tryd.prog.elem 22)).run Tryd.prog W = .ok 1 W := by kernel_rfl
  rw [e2]
  simp only [Result.andThen, sliced, Int.toNat_natCast, Nat.mul_one]
set_option maxRecDepth 100000 in
set_option maxHeartbeats 2000000 in
theorem chunk1_in (F : Fence) (n : Nat) (hf : F.fn 88) (hro : F.round = none) (hn : 1 ≤ n) (l Bs Bn n₀ : Nat) (a : Option Addr) (len cap sz : Nat) (hlc : len ≤ cap) (hreach : len ≤ 1048576) (hs1 : 1 ≤ sz) (hs2 : sz < 9223372036854775808) (J Jx : List Nat → World → Prop) (B0 : Nat) (hJ : AbidesFrom B0 J)
    (hY : ∀ pre k W, J pre W → pre.length < rounds len sz → YieldAt F (n - 1) Tryd.prog l #[.slice (adr a sz k) (bln len sz k) (bln len sz k)] W fun e W' =>
      (e = .returned (.bool true) ∧ J (pre ++ [k]) W' ∧ Kc n₀ Bs Bn W W') ∨ (e = .returned (.bool false) ∧ Jx (pre ++ [k]) W'))
    (W : World) (hBs : W.cell? ⟨Bs, 0, none⟩ = some (.slice a len cap)) (hBn : W.cell? ⟨Bn, 0, none⟩ = some (.int .i64 (sz : Int))) (h0 : J [] W) :
    CallsIn F n Tryd.prog 88 #[.func (.yield l) #[] #[], .pointer (some ⟨Bs, 0, none⟩), .pointer (some ⟨Bn, 0, none⟩)] W fun e W' => (∃ v, e = .returned v) ∧
      ((∃ ys, ys = List.range (rounds len sz) ∧ J ys W') ∨ (∃ pre, (∃ k, k ≤ rounds len sz ∧ pre = List.range k) ∧ Jx pre W')) := by
  have hmx : Tryd.prog.follows Departure.mixedOrders = true := by kernel_rfl
  refine callsIn_of_wp Tryd.func88 rfl hf ?_ hro
  simp only [Tryd.ntmps88, List.size_toArray, List.length_cons, List.length_nil, Nat.reduceAdd, Nat.reduceSub, Array.replicate_succ, Array.replicate_zero, List.push_toArray, List.append_toArray, List.nil_append, List.cons_append]
  gi_wp2
  gi_loopw [4] (fun i wr => ∃ k p : Nat, k ≤ rounds len sz ∧ Hid (k * sz = p) ∧ p < 9223372036854775808 ∧ i = .int .i64 (p : Int) ∧ J (List.range k) wr ∧ Hid (Kc n₀ Bs Bn W wr))
    (fun i _ => len - (intOf i).toNat)
  case atStart => exact ⟨0, 0, Nat.zero_le _, by show _ = _; simp, by decide, rfl, h0, ⟨Below.refl _ _, rfl, rfl⟩⟩
  case round =>
    obtain ⟨k, p, hk, hp, hpb, rfl, hJs, hnx⟩ := hrel
    have hbs : wr.cell? ⟨Bs, 0, none⟩ = some (.slice a len cap) := (World.cell?_of_block (a := ⟨Bs, 0, none⟩) (show wr.heap[Bs]? = W.heap[Bs]? from hnx.out.2.1)).trans hBs
    have hbn : wr.cell? ⟨Bn, 0, none⟩ = some (.int .i64 (sz : Int)) := (World.cell?_of_block (a := ⟨Bn, 0, none⟩) (show wr.heap[Bn]? = W.heap[Bn]? from hnx.out.2.2)).trans hBn
    by_cases hlt : p < len
    · have t1 : (p : Int) < (len : Int) := by omega
      obtain ⟨r, hr⟩ : ∃ r, Hid (len - p = r) := ⟨_, rfl⟩
      obtain ⟨e, he⟩ : ∃ e, Hid (bln len sz k = e) := ⟨_, rfl⟩
      obtain ⟨q, hq⟩ : ∃ q, Hid (p + e = q) := ⟨_, rfl⟩
      have he2 : Hid (e = min sz r) := by show _ = _; rw [← he.out, bln, hp.out, hr.out]
      have sl1 := fun W => sliceBL a len cap p (by omega) W
      rw [hr.out] at sl1
      obtain ⟨a3, ha3⟩ : ∃ z, Hid ((if cap = p then a else a.map fun x => x.add p) = z) := ⟨_, rfl⟩
      obtain ⟨c3, hc3⟩ : ∃ z, Hid (cap - p = z) := ⟨_, rfl⟩
      rw [ha3.out, hc3.out] at sl1
      obtain ⟨a4, ha4⟩ : ∃ z, Hid ((a.map fun x => x.add p) = z) := ⟨_, rfl⟩
      have sl2 := fun W => sliceBLHM a len cap p q (by have := hq.out; have := he2.out; have := hr.out; omega) (by have := hq.out; have := he2.out; have := hr.out; omega) W
      have had : Hid (adr a sz k = a4) := by show _ = _; unfold adr; rw [hp.out, ha4.out]
      rw [show q - p = e by have := hq.out; omega, ha4.out] at sl2
      have y0 : (0 : Int) ≤ (p : Int) := by omega
      have y1 : (p : Int) ≤ (len : Int) := by omega
      have hmin : min (sz : Int) (r : Int) = (e : Int) := by have := he2.out; omega
      have hsum : (p : Int) + (e : Int) = (q : Int) := by have := hq.out; omega
      have hw1 : IntKind.i64.wrap (q : Int) = (q : Int) := by have := hq.out; have := he2.out; have := hr.out; exact IntWalk.i64_in _ (by omega)
      clear ha3 hc3 ha4
      gi_wp2
      gi_region_o
      all_goals
        obtain ⟨wd, hwd⟩ : ∃ wd, Hid (wr.drew = wd) := ⟨_, rfl⟩
        rw [hwd.out]
        have hbs2 : wd.cell? ⟨Bs, 0, none⟩ = some (.slice a len cap) := by rw [← hwd.out]; exact hbs
        have hbn2 : wd.cell? ⟨Bn, 0, none⟩ = some (.int .i64 (sz : Int)) := by rw [← hwd.out]; exact hbn
        have hJd : J (List.range k) wd := by rw [← hwd.out]; exact hJ _ wr _ none hJs (g_drewN (g_refl wr none) 1) (fun r e => by cases e)
        have hnd : Hid (Kc n₀ Bs Bn W wd) := by show Kc _ _ _ _ _; rw [← hwd.out]; exact ⟨hnx.out.1.drew, hnx.out.2.1, hnx.out.2.2⟩
        obtain ⟨fn, tmps, assign, body, hy, hR⟩ := hY _ k wd hJd (by rw [List.length_range]; exact rounds_lt hs1 (by rw [hp.out]; exact hlt))
        rw [had.out, he.out] at hy
        clear hbs hbn hJs hnx hwd sl1 hmin
        gi_wp2
        refine hR.mono ?_
        rintro e5 W3 (⟨rfl, hJ3, hk3⟩ | ⟨rfl, hJx3⟩)
        · have hn3 : Hid (Kc n₀ Bs Bn W W3) := hnd.out.t hk3
          have hbn3 : W3.cell? ⟨Bn, 0, none⟩ = some (.int .i64 (sz : Int)) := (World.cell?_of_block (a := ⟨Bn, 0, none⟩) (show W3.heap[Bn]? = wd.heap[Bn]? from hk3.2.2)).trans hbn2
          have hrange : List.range (k + 1) = List.range k ++ [k] := List.range_succ
          rw [← hrange] at hJ3
          obtain ⟨p2, hp2⟩ : ∃ z, Hid (p + sz = z) := ⟨_, rfl⟩
          have hk1 : k < rounds len sz := rounds_lt hs1 (by rw [hp.out]; exact hlt)
          have hpk : Hid ((k + 1) * sz = p2) := by show _ = _; rw [Nat.add_mul, Nat.one_mul, hp.out, hp2.out]
          have hp2b : Hid (p2 < 9223372036854775808) := by
            show _ < _
            rw [← hp2.out]
            by_cases hk0 : k = 0
            · have : p = 0 := by rw [← hp.out, hk0, Nat.zero_mul]
              omega
            · have : sz ≤ p := by rw [← hp.out]; exact Nat.le_mul_of_pos_left sz (by omega)
              omega
          have hsum2 : (p : Int) + (sz : Int) = (p2 : Int) := by have := hp2.out; omega
          have hw2 : IntKind.i64.wrap (p2 : Int) = (p2 : Int) := by have := hp2b.out; exact IntWalk.i64_in _ (by omega)
          clear hbs2 hbn2 hR hnd hJd hrange
          gi_wp2
          go_roundw
          case rel => exact ⟨k + 1, p2, hk1, hpk, hp2b.out, rfl, hJ3, hn3⟩
          case measure => simp [intOf]; have := hp2.out; omega
        · gi_wp2
          refine bodyPost_ret (results_none rfl _ _ _) rfl ?_
          exact ⟨⟨_, rfl⟩, .inr ⟨_, ⟨k + 1, rounds_lt hs1 (by rw [hp.out]; exact hlt), List.range_succ.symm⟩, hJx3⟩⟩
    · have t1 : ¬ (p : Int) < (len : Int) := by omega
      have hkr : k = rounds len sz := rounds_end hs1 hk (by rw [hp.out]; exact hlt)
      gi_wp2
      go_end0
      exact ⟨⟨_, rfl⟩, .inl (hkr ▸ hJs)⟩
theorem chunk_in (F : Fence) (n : Nat) (hf : F.fn 74) (hro : F.round = none) (a : Option Addr) (len cap sz : Nat) (hs1 : 1 ≤ sz) (w : World) :
    CallsIn F n Tryd.prog 74 #[.slice a len cap, .int .i64 (sz : Int)] w fun e w' => e = .returned (.func (.func 88) #[] #[.pointer (some ⟨w.heap.size, 0, none⟩), .pointer (some ⟨w.heap.size + 1, 0, none⟩)]) ∧ w' = (w.alloc (.cells #[.slice a len cap] 22)).alloc (.cells #[.int .i64 (sz : Int)] 3) := by
  have t1 : ¬ (sz : Int) < 1 := by omega
  refine callsIn_of_wp Tryd.func74 rfl hf ?_ hro
  simp only [Tryd.ntmps74, List.size_toArray, List.length_cons, List.length_nil, Nat.reduceAdd, Nat.reduceSub, Array.replicate_succ, Array.replicate_zero, List.push_toArray, List.append_toArray, List.nil_append, List.cons_append]
  gi_wp2
  go_ret
  exact ⟨rfl, rfl⟩
theorem chunk_stops (F : Fence) (n : Nat) (hf : F.fn 88) (hro : F.round = none) (hn : 1 ≤ n) (Bs Bn n₀ : Nat) (a : Option Addr) (len cap sz : Nat) (hlc : len ≤ cap) (hreach : len ≤ 1048576) (hs1 : 1 ≤ sz) (hs2 : sz < 9223372036854775808) (w : World) (hBs : Bs < w.heap.size) (hBn : Bn < w.heap.size)
    (hb : w.cell? ⟨Bs, 0, none⟩ = some (.slice a len cap)) (hc : w.cell? ⟨Bn, 0, none⟩ = some (.int .i64 (sz : Int))) :
    SeqStopsK F n Tryd.prog 88 #[.pointer (some ⟨Bs, 0, none⟩), .pointer (some ⟨Bn, 0, none⟩)] (fun k : Nat => #[Value.slice (adr a sz k) (bln len sz k) (bln len sz k)]) (Kc n₀ Bs Bn) (fun ys => ys = List.range (rounds len sz))
      (fun pre => ∃ k, k ≤ rounds len sz ∧ pre = List.range k) (rounds len sz) w := fun l J Jx W hW hJ _ hY h0 =>
  chunk1_in F n hf hro hn l Bs Bn n₀ a len cap sz hlc hreach hs1 hs2 J Jx W.heap.size hJ hY W ((hW.cell (p := ⟨Bs, 0, none⟩) hBs).trans hb) ((hW.cell (p := ⟨Bn, 0, none⟩) hBn).trans hc) h0
end Go.Proofs.YtgkomejckbccdaaDoor
