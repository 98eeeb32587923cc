import Derived.Test.YtcnjcfmgkkghjaaPo1
namespace Go.Proofs.Ytcnjcfmgkkghjaa
open Go.RowKit
theorem blk_bytes {w : World} {g n off : Nat} {t : TypeId} {F : Nat → Nat} {N : Nat} (h : Blk w g t (rowA .u8 F N N)) (xs : List Nat) (hl : xs.length = n) (hfit : off + n ≤ N) (hx : ∀ i, i < n → xs.getD i 0 = F (off + i)) : Bytes w (some ⟨g, off, none⟩) xs := by
  intro i hi
  exact ⟨g, off, rfl, by rw [h.cell, rowA_all _ _ _ _ (by omega), hx i (by omega)]⟩
theorem grownBy_trans {a b c : World} {r : Option Nat} (h : a.grownBy b r) (k : b.grownBy c r) : a.grownBy c r :=
  ⟨k.os.trans h.os, k.tape.trans h.tape, k.output.trans h.output, Nat.le_trans h.size k.size, fun i hi hne => (k.block i (Nat.lt_of_lt_of_le hi h.size) hne).trans (h.block i hi hne)⟩
theorem below_grownBy {a b : World} (r : Option Nat) (h : Below a.heap.size a b) : a.grownBy b r := ⟨h.os, h.tape, h.output, h.size, fun i hi _ => h.block i hi⟩
theorem fn_getD (f : Nat → Nat) (n i : Nat) (h : i < n) : (Pl.fn f n).getD i 0 = f i := by have := Pl.fn_co f n i; rw [if_pos h] at this; exact this
theorem fn_lt {f : Nat → Nat} (h : ∀ i, f i < 256) (n i : Nat) : (Pl.fn f n).getD i 0 < 256 := by
  have := Pl.fn_co f n i
  show Pl.co _ _ < 256
  rw [this]; split
  · exact h i
  · decide
set_option maxRecDepth 100000 in
theorem addm_any (g off len cap n : Nat) (F : Nat → Nat) (t : TypeId) (a2 : Option Addr) (m c2 c : Nat) (ys : List Nat) (hF : ∀ i, F i < 256) (hm : m = ys.length) (hml : m ≤ len) (hlc : len ≤ cap) (hfit : off + len ≤ n) (hy : ∀ i, ys.getD i 0 < 256) (hbig : m ≤ 140737488355328) (hc : c < 256) (w : World) (hg : Blk w g t (rowA .u8 F n n)) (h2 : Bytes w a2 ys) :
    Calls Try.prog 52 #[.slice (some ⟨g, off, none⟩) len cap, .slice a2 m c2, .int .u8 c] w fun e w' => e = .returned (.tuple #[]) ∧ Blk w' g t (rowA .u8 (fun i => if off ≤ i ∧ i < off + m then F i ^^^ Gf.mul (ys.getD (i - off) 0) c else F i) n n) ∧ w.grownBy w' (some g) := by
  have s1 := fun W => sliceHead g off len cap m (by omega) W
  obtain ⟨G, hG⟩ : ∃ G : Nat → Nat, Hid (∀ i, G i = F (off + i) ^^^ Gf.mul (ys.getD i 0) c) := ⟨_, fun _ => rfl⟩
  obtain ⟨xs, hxs⟩ : ∃ xs, Hid (xs = Pl.fn (fun i => F (off + i)) m) := ⟨_, rfl⟩
  have hxl : Hid (xs.length = m) := by show _ = _; rw [hxs.out, Pl.fn_len]
  have hxv : Hid (∀ i, i < m → xs.getD i 0 = F (off + i)) := fun i hi => by rw [hxs.out, fn_getD _ _ _ hi]
  have hxb : Hid (∀ i, xs.getD i 0 < 256) := fun i => by rw [hxs.out]; exact fn_lt (fun i => hF _) _ _
  have hG2 : Hid (rowA .u8 (fun i => xs.getD i 0 ^^^ Gf.mul (ys.getD i 0) c) m m = rowA .u8 G m m) := rowA_congr (fun i hi => by rw [hG.out, hxv.out i hi])
  have b1 := hidIt (blk_bytes hg xs hxl.out (by omega) hxv.out)
  have m2 := hidIt hm
  have y2 := hidIt hy
  have g2 := hidIt hg
  have l2 := hidIt hml
  have f2 := hidIt hfit
  have i2 := hidIt h2
  clear hm hy hg hml hfit h2 hF hlc hxs
  go_enter Try.func52, Try.ntmps52
  go_wp2_with (fail)
  refine (muladd_any _ _ m _ _ c xs ys (Nat.le_of_eq hxl.out.symm) m2.out hxb.out y2.out hbig hc _ b1.out i2.out).mono ?_
  rintro e w1 ⟨rfl, hrow, hbel⟩
  rw [hG2.out] at hrow
  replace hrow := hidIt hrow
  replace hbel := hidIt hbel
  have hgl : Hid (g < w.heap.size) := g2.out.lt
  have hmn : Hid (m = Nat.min m len) := by have := l2.out; exact (Nat.min_eq_left this).symm
  have hft : Hid (off + m ≤ n) := by have := l2.out; have := f2.out; show _ ≤ _; omega
  have hsb := hidIt (blk_bytes (n := m) (off := 0) hrow.out (Pl.fn G m) (Pl.fn_len _ _) (by omega) (fun i hi => by rw [fn_getD _ _ _ hi, Nat.zero_add]))
  go_wp2_with (refine wpList_copy_blk rfl _ _ rfl _ _ _ _ _ _ rfl rfl g off n F t (g2.out.below hbel.out hgl.out) (Pl.fn G m) hsb.out m hmn.out (by rw [Pl.fn_len]; exact Nat.le_refl _) (fun _ => rfl) hft.out ?_; intro w' hb hgr; replace hb := hidIt hb; replace hgr := hidIt hgr)
  go_end0
  refine ⟨rfl, ?_, grownBy_trans (below_grownBy _ hbel.out) hgr.out⟩
  rw [rowA_congr (g := fun i => if off ≤ i ∧ i < off + m then (Pl.fn G m).getD (i - off) 0 else F i) (fun i _ => ?_)]
  · exact hb.out
  · by_cases hi : off ≤ i ∧ i < off + m
    · rw [if_pos hi, if_pos hi, fn_getD _ _ _ (by omega), hG.out, show off + (i - off) = i by omega, List.getD_eq_getElem?_getD]
    · rw [if_neg hi, if_neg hi]
set_option maxRecDepth 100000 in
theorem trim_any (a : Option Addr) (n c : Nat) (xs : List Nat) (hn : n = xs.length) (hx : ∀ i, xs.getD i 0 < 256) (hbig : n ≤ 140737488355328) (w : World) (h : Bytes w a xs) :
    Calls Try.prog 28 #[.slice a n c] w fun e w' => e = .returned (.slice (some ⟨w.heap.size, 0, none⟩) (Pl.d1 xs) (Pl.d1 xs)) ∧ Blk w' w.heap.size 5 (rowA .u8 (Pl.co xs) (Pl.d1 xs) (Pl.d1 xs)) ∧ Below w.heap.size w w' := by
  obtain ⟨d, hd⟩ : ∃ d, Hid (d = Pl.d1 xs) := ⟨_, rfl⟩
  have hdn : Hid (d ≤ n) := by show _ ≤ _; rw [hd.out, hn]; exact Pl.d1_le xs
  have hmk := makeLen d (by have := hdn.out; omega)
  have hw : wrap64 (d : Int) = (d : Int) := by have := hdn.out; unfold wrap64; omega
  rw [← hd.out]
  have n2 := hidIt hn
  have x2 := hidIt hx
  have i2 := hidIt h
  clear hn hx h
  go_enter Try.func28, Try.ntmps28
  go_wp2_with (fail)
  refine (degree_any _ _ _ xs n2.out x2.out hbig _ i2.out).mono ?_
  rintro e w1 ⟨rfl, rfl⟩
  rw [← hd.out]
  have hz : Hid (rowA .u8 (fun _ => 0) d 0 = rowA .u8 (fun _ => 0) d d) := by show _ = _; simp [rowA]
  have hB : Hid (Blk (w.alloc (.cells (rowA .u8 (fun _ => 0) d 0) 5)) w.heap.size 5 (rowA .u8 (fun _ => 0) d d)) := by
    show Blk _ _ _ _
    rw [← hz.out]
    exact Blk.new w 5 _
  have hb1 : Hid (Below w.heap.size w (w.alloc (.cells (rowA .u8 (fun _ => 0) d 0) 5))) := (Below.refl _ w).alloc (Nat.le_refl _) _
  have hsr : Hid (Bytes (w.alloc (.cells (rowA .u8 (fun _ => 0) d 0) 5)) a xs) := i2.out.below hb1.out
  have hmn : Hid (d = Nat.min n d) := (Nat.min_eq_right hdn.out).symm
  have hdx : Hid (d ≤ xs.length) := by have := hdn.out; have := n2.out; show _ ≤ _; omega
  clear hz
  go_wp2_with (refine wpList_copy_blk rfl _ _ rfl _ _ _ _ _ _ rfl rfl w.heap.size 0 d (fun _ => 0) 5 hB.out xs hsr.out d hmn.out hdx.out (fun _ => rfl) (by omega) ?_; intro w' hb hgr; replace hb := hidIt hb; replace hgr := hidIt hgr)
  go_ret
  refine ⟨rfl, ?_, hb1.out.trans ⟨hgr.out.os, hgr.out.tape, hgr.out.output, hgr.out.size, fun i hi => hgr.out.block i (by simp; omega) (fun e => by cases e; omega)⟩⟩
  rw [rowA_congr (g := fun i => if 0 ≤ i ∧ i < 0 + d then xs.getD (i - 0) 0 else 0) (fun i hi => ?_)]
  · exact hb.out
  · rw [if_pos (by omega)]; rfl
end Go.Proofs.Ytcnjcfmgkkghjaa
