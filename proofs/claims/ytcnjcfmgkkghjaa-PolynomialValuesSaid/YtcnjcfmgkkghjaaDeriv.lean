import Derived.Test.YtcnjcfmgkkghjaaPlDer
namespace Go.Proofs.Ytcnjcfmgkkghjaa
open Go.RowKit
/-- the row of Derivative's loop before the coefficient i -/
def dRow (p : List Nat) (i j : Nat) : Nat := if j + 1 < i ∧ j % 2 = 0 then Pl.co p (j + 1) else 0
theorem dRow_end (p : List Nat) {i : Nat} (h : p.length ≤ i) (j : Nat) : dRow p i j = dfn (Pl.co p) j := by
  unfold dRow dfn
  by_cases h1 : j % 2 = 0
  · by_cases h2 : j + 1 < i
    · rw [if_pos ⟨h2, h1⟩, if_pos h1]
    · rw [if_neg (fun e => h2 e.1), if_pos h1, Pl.co_out (by omega)]
  · rw [if_neg (fun e => h1 e.2), if_neg h1]
theorem dRow_next (p : List Nat) (k j : Nat) : dRow p (2 * k + 3) j = if j = 2 * k then Pl.co p (2 * k + 1) else dRow p (2 * k + 1) j := by
  unfold dRow
  by_cases h : j = 2 * k
  · subst h; rw [if_pos ⟨by omega, by omega⟩, if_pos rfl]
  · rw [if_neg h]
    by_cases h1 : j + 1 < 2 * k + 1 ∧ j % 2 = 0
    · rw [if_pos h1, if_pos ⟨by omega, h1.2⟩]
    · rw [if_neg h1, if_neg (by omega)]
set_option maxRecDepth 100000 in
theorem deriv_any (a : Option Addr) (n c : Nat) (xs : List Nat) (hn : n = xs.length) (hx : ∀ i, xs.getD i 0 < 256) (hbig : n ≤ 1000) (w : World) (h : Bytes w a xs) :
    Calls Try.prog 16 #[.slice a n c] w fun e w' => (∃ v, e = .returned v ∧ Made w w' v (Pl.trim (der xs))) ∧ Below w.heap.size w w' := by
  have hmk := makeLen n (by omega)
  have n2 := hidIt hn
  have x2 := hidIt hx
  have i2 := hidIt h
  have nb := hidIt hbig
  obtain ⟨w0, hw0⟩ : ∃ w0, Hid (w0 = w.alloc (.cells (rowA .u8 (fun _ => 0) n 0) 5)) := ⟨_, rfl⟩
  have hB0 : Hid (Blk w0 w.heap.size 5 (rowA .u8 (dRow xs 1) n n)) := by
    show Blk _ _ _ _
    have e : rowA .u8 (dRow xs 1) n n = rowA .u8 (fun _ => 0) n 0 := by
      rw [rowA_congr (g := fun _ => 0) (fun j _ => by unfold dRow; rw [if_neg (by omega)])]; simp [rowA]
    rw [e, hw0.out]
    exact Blk.new w 5 _
  have hb0 : Hid (Below w.heap.size w w0) := by show Below _ _ _; rw [hw0.out]; exact (Below.refl _ w).alloc (Nat.le_refl _) _
  clear hn hx h hbig
  go_enter Try.func16, Try.ntmps16
  go_wp2_with (fail)
  rw [← hw0.out]
  go_loopw [4] (fun i wr => ∃ k q : Nat, q ≤ n + 2 ∧ i = .int .i64 (q : Int) ∧ Hid (q = 2 * k + 1) ∧ Hid (Blk wr w.heap.size 5 (rowA .u8 (dRow xs q) n n)) ∧ Hid (Below w.heap.size w wr)) (fun i _ => n - (intOf i).toNat)
  case atStart => exact ⟨0, 1, by omega, rfl, rfl, hB0.out, hb0.out⟩
  case round =>
    clear hB0 hb0
    obtain ⟨k, q, hq, rfl, hqk, hrow, hb⟩ := hrel
    by_cases hlt : q < n
    · have t1 : (q : Int) < (n : Int) := by omega
      obtain ⟨p, hp⟩ : ∃ p, Hid (p = 2 * k) := ⟨_, rfl⟩
      have e3 : (q : Int) - 1 = (p : Int) := by have := hp.out; have := hqk.out; omega
      have e4 : IntKind.i64.wrap (p : Int) = (p : Int) := IntWalk.i64_in _ (by have := hp.out; have := hqk.out; have := nb.out; omega)
      have e5 : (p : Int) < (n : Int) := by have := hp.out; have := hqk.out; omega
      have hpn : p < n := by omega
      obtain ⟨q2, hq2⟩ : ∃ q2, Hid (q + 2 = q2) := ⟨_, rfl⟩
      have e6 : (q : Int) + 2 = (q2 : Int) := by have := hq2.out; omega
      have e7 : IntKind.i64.wrap (q2 : Int) = (q2 : Int) := IntWalk.i64_in _ (by have := hq2.out; have := nb.out; omega)
      obtain ⟨x, hx⟩ : ∃ x, Hid (xs.getD q 0 = x) := ⟨_, rfl⟩
      obtain ⟨b, o, rfl, e1⟩ := (i2.out.below hb.out) q (by have := n2.out; omega)
      rw [hx.out] at e1
      have d3 := hrow.out.frozen p
      have d4 : ∃ y : Nat, wr.cell? ⟨w.heap.size, p, none⟩ = some (.int .u8 (y : Int)) := ⟨_, by rw [hrow.out.cell, rowA_all _ _ _ _ hpn]⟩
      obtain ⟨y, d4⟩ := d4
      have hrow3 := hidIt hrow.out
      have hb3 := hidIt hb.out
      clear hrow hb
      go_wp2_with (fail)
      go_roundw
      case rel =>
        refine ⟨k + 1, q2, by have := hq2.out; omega, rfl, (by have := hq2.out; have := hqk.out; show _ = _; omega), ?_, hb3.out.setCell (by simp) _⟩
        have h5 := hrow3.out.set_ p (.int .u8 (x : Int))
        rw [rowA_upd] at h5
        show Blk _ _ _ _
        rw [rowA_congr (f := dRow xs q2) (g := fun i => if i = p then x else dRow xs q i) (fun i _ => ?_)]
        · exact h5
        · rw [show q2 = 2 * k + 3 by have := hq2.out; have := hqk.out; omega, dRow_next, ← hqk.out, ← hp.out, show Pl.co xs q = x from hx.out]
      case measure => simp [intOf]; have := hq2.out; omega
    · have t1 : ¬ (q : Int) < (n : Int) := by omega
      have hlen : Hid (n = (der xs).length) := by show _ = _; unfold der; rw [Pl.fn_len]; exact n2.out
      have hby : Hid (Bytes wr (some ⟨w.heap.size, 0, none⟩) (der xs)) := by
        refine blk_bytes (n := n) hrow.out (der xs) hlen.out.symm (by omega) (fun i hi => ?_)
        have hin : i < xs.length := by have := n2.out; omega
        show Pl.co (der xs) i = _
        rw [Nat.zero_add, der_co, dRow_end xs (by have := n2.out; omega)]
      have hdl := hidIt (der_lt x2.out)
      have hb3 := hidIt hb.out
      clear hrow hb
      go_wp2_with (fail)
      refine (trim2_any _ n n (der xs) hlen.out hdl.out (by have := nb.out; omega) _ hby.out).mono ?_
      rintro e w2 ⟨⟨v2, rfl, hm2⟩, hb2⟩
      have hm3 := hidIt (hm2.mono (w := w) hb3.out.size)
      have hb4 := hidIt (hb3.out.trans (hb2.mono hb3.out.size))
      clear hm2 hb2
      go_wp2
      go_ret
      exact ⟨⟨_, rfl, hm3.out⟩, hb4.out⟩
end Go.Proofs.Ytcnjcfmgkkghjaa
