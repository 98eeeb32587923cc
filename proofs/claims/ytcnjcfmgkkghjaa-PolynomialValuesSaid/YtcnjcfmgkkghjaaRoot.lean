import Derived.Test.YtcnjcfmgkkghjaaEval
namespace Go.Proofs.Ytcnjcfmgkkghjaa
open Go.RowKit
theorem timesRoot_any (r : Int) (w : World) :
    Calls Try.prog 34 #[.int .u8 r] w fun e w' => e = .returned (.func (.func 53) #[] #[.pointer (some ⟨w.heap.size, 0, none⟩)]) ∧ w' = w.alloc (.cells #[.int .u8 r] 5) := by
  go_enter Try.func34, Try.ntmps34
  go_wp2
  go_ret
  exact ⟨rfl, rfl⟩
/-- the product with x + r -/
def root (r : Nat) (xs : List Nat) : List Nat := Pl.fn (fun i => (if i = 0 then 0 else Pl.co xs (i - 1)) ^^^ Gf.mul (Pl.co xs i) r) (xs.length + 1)
theorem root_lt {r : Nat} {xs : List Nat} (hx : ∀ i, xs.getD i 0 < 256) (i : Nat) : (root r xs).getD i 0 < 256 := fn_lt (fun i => Gf.xor_lt (by split <;> first | exact hx _ | decide) (Gf.mul_lt _ (hx i))) _ i
theorem root_len (r : Nat) (xs : List Nat) : (root r xs).length = xs.length + 1 := Pl.fn_len _ _
set_option maxRecDepth 100000 in
theorem timesRoot1_any (a : Option Addr) (n c r Bs : Nat) (xs : List Nat) (hn : n = xs.length) (h0 : 0 < n) (hx : ∀ i, xs.getD i 0 < 256) (hr : r < 256) (hbig : n < 140737488355328) (w : World) (h : Bytes w a xs) (hbs : w.cell? ⟨Bs, 0, none⟩ = some (.int .u8 (r : Int))) :
    Calls Try.prog 53 #[.slice a n c, .pointer (some ⟨Bs, 0, none⟩)] w fun e w' => (∃ v, e = .returned v ∧ Made w w' v (root r xs)) ∧ Below w.heap.size w w' := by
  obtain ⟨m, hm⟩ : ∃ m, Hid (m = n + 1) := ⟨_, rfl⟩
  have q1 : (n : Int) + 1 = (m : Int) := by have := hm.out; omega
  have hmb : Hid (m ≤ 140737488355328) := by have := hm.out; show _ ≤ _; omega
  have q2 : m ≤ 140737488355328 := hmb.out
  have hmk := makeLen m hmb.out
  have s1 : ∀ W : World, (Instr.slice 22 (.slice (some ⟨w.heap.size, 0, none⟩) m m) (some (.int .i64 1)) none none).run Try.prog W = .ok (.slice (some ⟨w.heap.size, 1, none⟩) n n) W := fun W => by
    have h := sliceTail w.heap.size 0 m m 1 (by have := hm.out; omega) (by have := hm.out; omega) W
    rw [show m - 1 = n by have := hm.out; omega] at h
    exact h
  have n2 := hidIt hn
  have x2 := hidIt hx
  have i2 := hidIt h
  have nb := hidIt (Nat.le_of_lt hbig)
  obtain ⟨w0, hw0⟩ : ∃ w0, Hid (w0 = w.alloc (.cells (rowA .u8 (fun _ => 0) m 0) 5)) := ⟨_, rfl⟩
  have hB0 : Hid (Blk w0 w.heap.size 5 (rowA .u8 (fun _ => 0) m m)) := by
    show Blk _ _ _ _
    have e : rowA .u8 (fun _ => 0) m m = rowA .u8 (fun _ => 0) m 0 := by simp [rowA]
    rw [e, hw0.out]
    exact Blk.new w 5 _
  have hb0 : Hid (Below w.heap.size w w0) := by show Below _ _ _; rw [hw0.out]; exact (Below.refl _ w).alloc (Nat.le_refl _) _
  have hB1 : Hid (Blk (w.alloc (.cells (rowA .u8 (fun _ => 0) m 0) 5)) w.heap.size 5 (rowA .u8 (fun _ => 0) m m)) := by
    show Blk _ _ _ _; rw [← hw0.out]; exact hB0.out
  have hsr : Hid (Bytes (w.alloc (.cells (rowA .u8 (fun _ => 0) m 0) 5)) a xs) := by
    show Bytes _ _ _; rw [← hw0.out]; exact i2.out.below hb0.out
  have hmn : Hid (n = Nat.min n n) := (Nat.min_self n).symm
  have hnx : Hid (n ≤ xs.length) := Nat.le_of_eq hn
  have hft : Hid (1 + n ≤ m) := by have := hm.out; show _ ≤ _; omega
  obtain ⟨F, hF⟩ : ∃ F : Nat → Nat, Hid (∀ i, F i = if 1 ≤ i ∧ i < 1 + n then xs.getD (i - 1) 0 else 0) := ⟨_, fun _ => rfl⟩
  have hFb : Hid (∀ i, F i < 256) := fun i => by rw [hF.out]; split <;> first | exact hx _ | decide
  have hml : Hid (n ≤ m ∧ 0 + m ≤ m) := by have := hm.out; show _ ∧ _; omega
  have hbs2 := hidIt hbs
  have hr2 := hidIt hr
  clear hn hx h hbs hr hbig
  go_enter Try.func53, Try.ntmps53
  go_wp2_with (refine wpList_copy_blk rfl _ _ rfl _ _ _ _ _ _ rfl rfl w.heap.size 1 m (fun _ => 0) 5 hB1.out xs hsr.out n hmn.out hnx.out (fun _ => rfl) hft.out ?_; intro w1 hb hgr; replace hb := hidIt hb; replace hgr := hidIt hgr; have hbel := hidIt (below_at (Nat.le_refl _) (hw0.out ▸ hb0.out) hgr.out); have hcc := (hbel.out.cell (p := ⟨Bs, 0, none⟩) (bytes_lt hbs2.out)).trans hbs2.out)
  have hb2 : Hid (Blk w1 w.heap.size 5 (rowA .u8 F m m)) := by
    show Blk _ _ _ _
    rw [rowA_congr (fun i _ => hF.out i)]
    exact hb.out
  refine (addm_any w.heap.size 0 m m m F 5 a n _ r xs hFb.out n2.out hml.out.1 (Nat.le_refl _) hml.out.2 x2.out nb.out hr2.out w1 hb2.out (i2.out.below hbel.out)).mono ?_
  rintro e w2 ⟨rfl, hb4, hgr4⟩
  replace hb4 := hidIt hb4
  replace hbel := hidIt (below_at (Nat.le_refl _) hbel.out hgr4)
  clear hgr4
  go_wp2
  go_ret
  refine ⟨⟨_, rfl, w.heap.size, by rw [root_len, ← n2.out, ← hm.out]; rfl, Nat.le_refl _, ?_⟩, hbel.out⟩
  rw [root_len, ← n2.out, ← hm.out, rowA_congr (g := fun i => if 0 ≤ i ∧ i < 0 + n then F i ^^^ Gf.mul (xs.getD (i - 0) 0) r else F i) (fun i hi => ?_)]
  · exact hb4.out
  · unfold root
    have e1 : (if i = 0 then 0 else Pl.co xs (i - 1)) = F i := by
      rw [hF.out]
      by_cases h1 : i = 0
      · rw [if_pos h1, if_neg (by omega)]
      · rw [if_neg h1, if_pos (by have := hm.out; omega)]
    rw [Pl.fn_co, if_pos (by have := hm.out; have := n2.out; omega), e1]
    by_cases h2 : 0 ≤ i ∧ i < 0 + n
    · rw [if_pos h2]; rfl
    · rw [if_neg h2, Pl.co_out (p := xs) (by have := n2.out; omega), Gf.zero_mul]; simp
end Go.Proofs.Ytcnjcfmgkkghjaa
