import Derived.Test.YtcnjcfmgkkghjaaRefP
namespace Go.Proofs.Ytcnjcfmgkkghjaa
open Go.RowKit
/-- the reference's row: the first k coefficients whole, of the next one l terms -/
def rowT (xs ys : List Nat) (k l j : Nat) : Nat := Pl.mr (Pl.co xs) (Pl.co ys) k j ^^^ (if k ≤ j ∧ j - k < l then Gf.mul (Pl.co xs k) (Pl.co ys (j - k)) else 0)
theorem rowT_zero (xs ys : List Nat) (k j : Nat) : rowT xs ys k 0 j = Pl.mr (Pl.co xs) (Pl.co ys) k j := by unfold rowT; rw [if_neg (by omega)]; simp
theorem rowT_all (xs ys : List Nat) (k j : Nat) : rowT xs ys k ys.length j = Pl.mr (Pl.co xs) (Pl.co ys) (k + 1) j := by
  unfold rowT
  rw [Pl.mr_succ]
  congr 1
  by_cases h : k ≤ j
  · by_cases h2 : j - k < ys.length
    · rw [if_pos ⟨h, h2⟩, if_pos h]
    · rw [if_neg (by omega), if_pos h, Pl.co_out (p := ys) (by omega), Gf.mul_zero]
  · rw [if_neg (by omega), if_neg h]
theorem rowT_succ (xs ys : List Nat) (k l j : Nat) : rowT xs ys k (l + 1) j = if j = k + l then rowT xs ys k l j ^^^ Gf.mul (Pl.co xs k) (Pl.co ys l) else rowT xs ys k l j := by
  unfold rowT
  by_cases h : j = k + l
  · subst h
    rw [if_pos ⟨by omega, by omega⟩, if_pos rfl, if_neg (by omega), show k + l - k = l by omega]; simp
  · rw [if_neg h]
    by_cases h2 : k ≤ j ∧ j - k < l
    · rw [if_pos h2, if_pos (by omega)]
    · rw [if_neg h2, if_neg (by omega)]
theorem rowT_lt {xs ys : List Nat} (hx : ∀ i, xs.getD i 0 < 256) (k l j : Nat) : rowT xs ys k l j < 256 := Gf.xor_lt (Pl.mr_lt hx k j) (by split <;> first | exact Gf.mul_lt _ (hx k) | decide)
theorem refmul_eq {xs ys : List Nat} (hx : ∀ i, xs.getD i 0 < 256) (hy : ∀ i, ys.getD i 0 < 256) : Pl.trim (Pl.fn (Pl.mr (Pl.co xs) (Pl.co ys) xs.length) (xs.length + ys.length)) = timesT xs ys := by
  have e : ∀ j, Pl.mr (Pl.co xs) (Pl.co ys) xs.length j = Pl.cv (Pl.co xs) (Pl.co ys) j := fun j => Pl.mr_all _ _ (fun i hi => Pl.co_out hi)
  refine Pl.nf_ext (Pl.trim_nf _) (timesT_nf hx hy) (fun j => ?_)
  rw [Pl.trim_co, co_fn (fun j hj => by rw [e]; exact Pl.cv_zero (fun i hi => Pl.co_out hi) (fun i hi => Pl.co_out hi) j (by omega)), e, timesT_co]
theorem refmulz_any (a b z : Nat) (ha : a < 256) (hb : b < 256) (hz : Gf.mul a b = z) (w : World) :
    Calls Try.prog 41 #[.int .u8 a, .int .u8 b] w fun e w' => e = .returned (.int .u8 (z : Int)) ∧ w = w' := hz ▸ refmul_any a b ha hb w
set_option maxRecDepth 100000 in
set_option maxHeartbeats 1000000 in
theorem refpmul_any (a1 a2 : Option Addr) (n1 n2 c1 c2 : Nat) (xs ys : List Nat) (hx : ∀ i, xs.getD i 0 < 256) (hy : ∀ i, ys.getD i 0 < 256) (hb1 : n1 ≤ 1000) (hb2 : n2 ≤ 1000) (w : World) (h1 : Rd w a1 n1 c1 xs) (h2 : Rd w a2 n2 c2 ys) :
    Calls Try.prog 45 #[.slice a1 n1 c1, .slice a2 n2 c2] w fun e w' => (∃ a' m' c', e = .returned (.slice a' m' c') ∧ Rd w' a' m' c' (timesT xs ys)) ∧ Below w.heap.size w w' := by
  obtain ⟨L, hL⟩ : ∃ L, Hid (L = n1 + n2) := ⟨_, rfl⟩
  have q1 : (n1 : Int) + (n2 : Int) = (L : Int) := by have := hL.out; omega
  have hLb : Hid (L ≤ 2000) := by have := hL.out; show _ ≤ _; omega
  have hmk := makeLen L (by have := hLb.out; omega)
  obtain ⟨T, hT⟩ : ∃ T : Nat → Nat → Nat → Nat, Hid (T = rowT xs ys) := ⟨_, rfl⟩
  have hTl : Hid (∀ k l j, T k l j < 256) := by show ∀ k l j, _; rw [hT.out]; exact rowT_lt hx
  have hTn : Hid (∀ k, rowA .u8 (T k n2) L L = rowA .u8 (T (k + 1) 0) L L) := fun k => rowA_congr (fun j _ => by rw [hT.out, h2.len, rowT_all, rowT_zero])
  have r1 := hidIt h1
  have r2 := hidIt h2
  have x2 := hidIt hx
  have y2 := hidIt hy
  clear h1 h2 hx hy
  obtain ⟨w0, hw0⟩ : ∃ w0, Hid (w0 = w.alloc (.cells (rowA .u8 (fun _ => 0) L 0) 5)) := ⟨_, rfl⟩
  have hB0 : Hid (Blk w0 w.heap.size 5 (rowA .u8 (T 0 0) L L)) := by
    show Blk _ _ _ _
    have e : rowA .u8 (T 0 0) L L = rowA .u8 (fun _ => 0) L 0 := by rw [rowA_congr (g := fun _ => 0) (fun i _ => by rw [hT.out, rowT_zero]; rfl)]; simp [rowA]
    rw [e, hw0.out]
    exact Blk.new w 5 _
  have hb0 : Hid (Below w.heap.size w w0) := by show Below _ _ _; rw [hw0.out]; exact (Below.refl _ w).alloc (Nat.le_refl _) _
  go_enter Try.func45, Try.ntmps45
  go_wp2_with (fail)
  rw [← hw0.out]
  go_loopw [16, 6, 7] (fun i _ _ wr => ∃ k : Nat, k ≤ n1 ∧ i = .int .i64 k ∧ Hid (Blk wr w.heap.size 5 (rowA .u8 (T k 0) L L)) ∧ Hid (Below w.heap.size w wr)) (fun i _ _ _ => n1 - (intOf i).toNat)
  case atStart => exact ⟨0, by omega, rfl, hB0.out, hb0.out⟩
  case round =>
    obtain ⟨k, hk, rfl, hrow, hb⟩ := hrel
    by_cases hlt : k < n1
    · have t1 : (k : Int) < (n1 : Int) := by omega
      go_wp2_with (fail)
      go_loopw [21, 7] (fun i _ wr => ∃ l : Nat, l ≤ n2 ∧ i = .int .i64 l ∧ Hid (Blk wr w.heap.size 5 (rowA .u8 (T k l) L L)) ∧ Hid (Below w.heap.size w wr)) (fun i _ _ => n2 - (intOf i).toNat)
      case atStart => exact ⟨0, by omega, rfl, hrow, hb⟩
      case round =>
        obtain ⟨l, hl, rfl, hrow2, hbI⟩ := hrel
        by_cases hlt2 : l < n2
        · have t2 : (l : Int) < (n2 : Int) := by omega
          obtain ⟨s, hs⟩ : ∃ s, Hid (k + l = s) := ⟨_, rfl⟩
          have e4 : (k : Int) + (l : Int) = (s : Int) := by have := hs.out; omega
          have hsL : Hid (s < L) := by have := hs.out; have := hL.out; show _ < _; omega
          have e5 : IntKind.i64.wrap (s : Int) = (s : Int) := IntWalk.i64_in _ (by have := hsL.out; have := hLb.out; omega)
          have e6 : (s : Int) < (L : Int) := by have := hsL.out; omega
          obtain ⟨x, hx⟩ : ∃ x, Hid (xs.getD k 0 = x) := ⟨_, rfl⟩
          obtain ⟨y, hy⟩ : ∃ y, Hid (ys.getD l 0 = y) := ⟨_, rfl⟩
          obtain ⟨u, hu⟩ : ∃ u, Hid (T k l s = u) := ⟨_, rfl⟩
          have xb : x < 256 := by rw [← hx.out]; exact x2.out k
          have yb : y < 256 := by rw [← hy.out]; exact y2.out l
          have ub : u < 256 := by rw [← hu.out]; exact hTl.out _ _ _
          obtain ⟨b1, o1, rfl, f1⟩ := (r1.out.bytes.below hbI.out) k (by have := r1.out.len; omega)
          obtain ⟨b2, o2, rfl, f2⟩ := (r2.out.bytes.below hbI.out) l (by have := r2.out.len; omega)
          rw [hx.out] at f1
          rw [hy.out] at f2
          have d1 : wr.cell? ⟨w.heap.size, s, none⟩ = some (.int .u8 (u : Int)) := by rw [hrow2.out.cell, rowA_all _ _ _ _ hsL.out, hu.out]
          have d3 := hrow2.out.frozen s
          obtain ⟨z, hz⟩ : ∃ z, Hid (Gf.mul x y = z) := ⟨_, rfl⟩
          have zb : z < 256 := by rw [← hz.out]; exact Gf.mul_lt _ xb
          have hxor : bits BinOp.xor IntKind.u8 (u : Int) (z : Int) = ((u ^^^ z : Nat) : Int) := u8_xor_nat _ _ ub zb
          go_wp2
          go_still_tail 21, (by kernel_rfl)
          still_call ((refmulz_any x y z xb yb hz.out _).mono fun _ _ h => ⟨h.1, h.2.symm⟩)
          repeat still_step
          refine wpStill_nil ?_
          change wpList _ _ _ _ _ wr.drew
          have hrow3 := hidIt hrow2.out
          have hb3 := hidIt hbI.out
          clear hrow2 hbI
          go_wp2
          go_roundw
          case rel =>
            refine ⟨l + 1, by omega, by go_num, ?_, (hb3.out.setCell (by simp) _).drew⟩
            have h5 := hrow3.out.set_ s (.int .u8 ((u ^^^ z : Nat) : Int))
            rw [rowA_upd] at h5
            show Blk _ _ _ _
            rw [rowA_congr (f := T k (l + 1)) (g := fun i => if i = s then u ^^^ z else T k l i) (fun i _ => ?_)]
            · exact h5
            · rw [hT.out, rowT_succ, hs.out]
              by_cases h1 : i = s
              · rw [if_pos h1, if_pos h1, h1, ← hT.out, hu.out, show Pl.co xs k = x from hx.out, show Pl.co ys l = y from hy.out, hz.out]
              · rw [if_neg h1, if_neg h1]
          case measure => simp [intOf]; omega
        · obtain rfl : l = n2 := by omega
          have hrow3 : Hid (Blk wr w.heap.size 5 (rowA .u8 (T (k + 1) 0) L L)) := by show Blk _ _ _ _; rw [← hTn.out]; exact hrow2.out
          have hb3 := hidIt hbI.out
          clear hrow2 hbI
          go_wp2
          go_roundw
          case rel => exact ⟨k + 1, by omega, by go_num, hrow3.out, hb3.out⟩
          case measure => simp [intOf]; omega
    · obtain rfl : k = n1 := by omega
      have hlt' : Hid (∀ i, (Pl.fn (T k 0) L).getD i 0 < 256) := fn_lt (fun i => hTl.out _ _ _) L
      have hrd : Hid (Rd wr (some ⟨w.heap.size, 0, none⟩) L L (Pl.fn (T k 0) L)) := ⟨(Pl.fn_len _ _).symm, blk_bytes (n := L) hrow.out _ (Pl.fn_len _ _) (by omega) (fun i hi => by rw [fn_getD _ _ _ hi, Nat.zero_add]), (fun e => by cases e), Nat.le_refl _⟩
      have hLc : L ≤ 100000 := by have := hLb.out; omega
      have heq : Hid (Pl.trim (Pl.fn (T k 0) L) = timesT xs ys) := by
        show _ = _
        rw [← refmul_eq x2.out y2.out, hT.out, hL.out, ← r1.out.len, ← r2.out.len]
        congr 2
        exact funext (fun j => rowT_zero xs ys k j)
      have t1 : ¬ (k : Int) < (k : Int) := by omega
      go_wp2_with (fail)
      refine (reftrim_any _ L L (Pl.fn (T k 0) L) hlt'.out hLc _ hrd.out).mono ?_
      rintro e w2 ⟨⟨a3, m3, c3, rfl, hr3⟩, hb3⟩
      rw [heq.out] at hr3
      have hr3' := hidIt hr3
      have hb4 := hidIt (hb.out.trans (hb3.mono hb.out.size))
      clear hr3 hb3
      go_wp2
      go_ret
      exact ⟨⟨_, _, _, rfl, hr3'.out⟩, hb4.out⟩
end Go.Proofs.Ytcnjcfmgkkghjaa
