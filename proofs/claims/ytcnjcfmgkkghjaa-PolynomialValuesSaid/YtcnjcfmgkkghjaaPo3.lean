import Derived.Test.YtcnjcfmgkkghjaaPo2
namespace Go.Proofs.Ytcnjcfmgkkghjaa
open Go.RowKit
/-- a slice that a call made: a row of bytes in a block of its own -/
def Made (w w' : World) (v : Value) (zs : List Nat) : Prop := ∃ g, v = .slice (some ⟨g, 0, none⟩) zs.length zs.length ∧ w.heap.size ≤ g ∧ Blk w' g 5 (rowA .u8 (Pl.co zs) zs.length zs.length)
theorem Made.bytes {w w' : World} {v : Value} {zs : List Nat} (h : Made w w' v zs) : ∃ g, v = .slice (some ⟨g, 0, none⟩) zs.length zs.length ∧ w.heap.size ≤ g ∧ Bytes w' (some ⟨g, 0, none⟩) zs := by
  obtain ⟨g, h1, h2, h3⟩ := h
  exact ⟨g, h1, h2, blk_bytes (n := zs.length) h3 zs rfl (by omega) (fun i hi => by rw [Nat.zero_add])⟩
/-- the sum, before the zeros at its end are cut off -/
def plus (xs ys : List Nat) : List Nat := Pl.fn (fun i => Pl.co xs i ^^^ Pl.co ys i) (max xs.length ys.length)
theorem plus_co (xs ys : List Nat) (i : Nat) : Pl.co (plus xs ys) i = Pl.co xs i ^^^ Pl.co ys i := by
  unfold plus
  rw [Pl.fn_co]
  split
  · rfl
  · rw [Pl.co_out (by omega), Pl.co_out (by omega)]; rfl
theorem made_trim {w w' : World} {g : Nat} {xs : List Nat} (hg : w.heap.size ≤ g) (h : Blk w' g 5 (rowA .u8 (Pl.co xs) (Pl.d1 xs) (Pl.d1 xs))) : Made w w' (.slice (some ⟨g, 0, none⟩) (Pl.d1 xs) (Pl.d1 xs)) (Pl.trim xs) := by
  refine ⟨g, by rw [Pl.trim_len], hg, ?_⟩
  rw [Pl.trim_len, rowA_congr (g := Pl.co xs) (fun i _ => Pl.trim_co xs i)]
  exact h
theorem trim2_any (a : Option Addr) (n c : Nat) (xs : List Nat) (hn : n = xs.length) (hx : ∀ i, xs.getD i 0 < 256) (hbig : n ≤ 140737488355328) (w : World) (h : Bytes w a xs) :
    Calls Try.prog 28 #[.slice a n c] w fun e w' => (∃ v, e = .returned v ∧ Made w w' v (Pl.trim xs)) ∧ Below w.heap.size w w' :=
  (trim_any a n c xs hn hx hbig w h).mono fun _ _ ⟨h1, h2, h3⟩ => ⟨⟨_, h1, made_trim (Nat.le_refl _) h2⟩, h3⟩
theorem Made.mono {w w1 w' : World} {v : Value} {zs : List Nat} (h : Made w1 w' v zs) (hs : w.heap.size ≤ w1.heap.size) : Made w w' v zs := by
  obtain ⟨g, h1, h2, h3⟩ := h
  exact ⟨g, h1, by omega, h3⟩
theorem below_at {B : Nat} {w w1 w2 : World} (hB : B ≤ w.heap.size) (h : Below B w w1) (k : w1.grownBy w2 (some B)) : Below B w w2 :=
  ⟨k.os.trans h.os, k.tape.trans h.tape, k.output.trans h.output, Nat.le_trans h.size k.size, fun i hi =>
    (k.block i (by have := h.size; omega) (fun e => by cases e; omega)).trans (h.block i hi)⟩
set_option maxRecDepth 100000 in
theorem add2_any (a1 a2 : Option Addr) (n1 n2 c1 c2 : Nat) (xs ys : List Nat) (hn : n1 = xs.length) (hm : n2 = ys.length) (hx : ∀ i, xs.getD i 0 < 256) (hy : ∀ i, ys.getD i 0 < 256) (hb1 : n1 ≤ 140737488355328) (hb2 : n2 ≤ 140737488355328) (w : World) (h1 : Bytes w a1 xs) (h2 : Bytes w a2 ys) :
    Calls Try.prog 32 #[.slice a1 n1 c1, .slice a2 n2 c2] w fun e w' => (∃ v, e = .returned v ∧ Made w w' v (Pl.trim (plus xs ys))) ∧ Below w.heap.size w w' := by
  obtain ⟨d, hd⟩ : ∃ d, Hid (d = max n1 n2) := ⟨_, rfl⟩
  have hdb : Hid (d ≤ 140737488355328) := by show _ ≤ _; rw [hd.out]; omega
  have hmk := makeLen d hdb.out
  obtain ⟨F, hF⟩ : ∃ F : Nat → Nat, Hid (∀ i, F i = Pl.co xs i) := ⟨_, fun _ => rfl⟩
  have hFl : Hid (∀ i, F i < 256) := fun i => by rw [hF.out]; exact hx i
  have n1' := hidIt hn
  have n2' := hidIt hm
  have x2 := hidIt hx
  have y2 := hidIt hy
  have i1 := hidIt h1
  have i2 := hidIt h2
  have b1 := hidIt hb1
  have b2 := hidIt hb2
  clear hn hm hx hy h1 h2 hb1 hb2
  have hz : Hid (rowA .u8 (fun _ => 0) d 0 = rowA .u8 (fun _ => 0) d d) := by show _ = _; simp [rowA]
  have hB : Hid (Blk (w.alloc (.cells (rowA .u8 (fun _ => 0) d 0) 5)) w.heap.size 5 (rowA .u8 (fun _ => 0) d d)) := by
    show Blk _ _ _ _
    rw [← hz.out]
    exact Blk.new w 5 _
  have ha1 : Hid (Below w.heap.size w (w.alloc (.cells (rowA .u8 (fun _ => 0) d 0) 5))) := (Below.refl _ w).alloc (Nat.le_refl _) _
  have hsr : Hid (Bytes (w.alloc (.cells (rowA .u8 (fun _ => 0) d 0) 5)) a1 xs) := i1.out.below ha1.out
  have hmn : Hid (n1 = Nat.min n1 d) := by show _ = _; rw [hd.out]; exact (Nat.min_eq_left (Nat.le_max_left _ _)).symm
  have hfi : Hid (0 + n1 ≤ d) := by show _ ≤ _; rw [hd.out]; omega
  have hm2 : Hid (n2 ≤ d) := by show _ ≤ _; rw [hd.out]; omega
  have hpl : Hid (d = (plus xs ys).length) := by show _ = _; unfold plus; rw [Pl.fn_len, hd.out, n1'.out, n2'.out]
  have hpx : Hid (∀ i, (plus xs ys).getD i 0 < 256) := fun i => by
    have := plus_co xs ys i
    show Pl.co _ _ < 256
    rw [this]
    exact Gf.xor_lt (x2.out i) (y2.out i)
  have hco : Hid (∀ w1 : World, Blk w1 w.heap.size 5 (rowA .u8 (fun i => if 0 ≤ i ∧ i < 0 + n1 then xs.getD (i - 0) 0 else 0) d d) → Blk w1 w.heap.size 5 (rowA .u8 F d d)) := fun w1 h => by
    rw [rowA_congr (g := fun i => if 0 ≤ i ∧ i < 0 + n1 then xs.getD (i - 0) 0 else 0) (fun i _ => ?_)]
    · exact h
    · rw [hF.out]
      by_cases hi : 0 ≤ i ∧ i < 0 + n1
      · rw [if_pos hi]; rfl
      · rw [if_neg hi]; exact Pl.co_out (by have := n1'.out; omega)
  have hsum : Hid (∀ w2 : World, Blk w2 w.heap.size 5 (rowA .u8 (fun i => if 0 ≤ i ∧ i < 0 + n2 then F i ^^^ Gf.mul (ys.getD (i - 0) 0) 1 else F i) d d) → Bytes w2 (some ⟨w.heap.size, 0, none⟩) (plus xs ys)) := fun w2 h => by
    refine blk_bytes (n := d) h (plus xs ys) hpl.out.symm (by omega) (fun i hi => ?_)
    have := plus_co xs ys i
    show Pl.co _ _ = _
    rw [this, Nat.zero_add, hF.out]
    by_cases hi : 0 ≤ i ∧ i < 0 + n2
    · rw [if_pos hi, Gf.mul_one (y2.out _)]; rfl
    · rw [if_neg hi, Pl.co_out (p := ys) (by have := n2'.out; omega)]; simp
  clear hz
  by_cases hlt : n1 < n2
  · obtain rfl : n2 = d := by rw [hd.out]; omega
    clear hd
    go_enter Try.func32, Try.ntmps32
    go_wp2_with (refine wpList_copy_blk rfl _ _ rfl _ _ _ _ _ _ rfl rfl w.heap.size 0 _ (fun _ => 0) 5 hB.out xs hsr.out _ hmn.out (Nat.le_of_eq n1'.out) (fun _ => rfl) hfi.out ?_; intro w1 hb hgr; replace hb := hidIt hb; replace hgr := hidIt hgr)
    have hb2 := hidIt (hco.out w1 hb.out)
    have hbl := hidIt (below_at (Nat.le_refl _) ha1.out hgr.out)
    refine (addm_any w.heap.size 0 _ _ _ F 5 a2 _ c2 1 ys hFl.out n2'.out hm2.out (Nat.le_refl _) (Nat.le_of_eq (Nat.zero_add _)) y2.out b2.out (by decide) _ hb2.out (i2.out.below hbl.out)).mono ?_
    rintro e w2 ⟨rfl, hb4, hgr4⟩
    replace hb4 := hidIt (hsum.out w2 hb4)
    replace hbl := hidIt (below_at (Nat.le_refl _) hbl.out hgr4)
    clear hgr4
    go_wp2_with (fail)
    refine (trim2_any _ _ _ (plus xs ys) hpl.out hpx.out hdb.out _ hb4.out).mono ?_
    rintro e w3 ⟨⟨v, rfl, hmade⟩, hbel⟩
    replace hmade := hidIt hmade
    replace hbel := hidIt hbel
    go_wp2
    go_ret
    exact ⟨⟨_, rfl, hmade.out.mono hbl.out.size⟩, hbl.out.trans (hbel.out.mono hbl.out.size)⟩
  · obtain rfl : n1 = d := by rw [hd.out]; omega
    clear hd
    go_enter Try.func32, Try.ntmps32
    go_wp2_with (refine wpList_copy_blk rfl _ _ rfl _ _ _ _ _ _ rfl rfl w.heap.size 0 _ (fun _ => 0) 5 hB.out xs hsr.out _ hmn.out (Nat.le_of_eq n1'.out) (fun _ => rfl) hfi.out ?_; intro w1 hb hgr; replace hb := hidIt hb; replace hgr := hidIt hgr)
    have hb2 := hidIt (hco.out w1 hb.out)
    have hbl := hidIt (below_at (Nat.le_refl _) ha1.out hgr.out)
    refine (addm_any w.heap.size 0 _ _ _ F 5 a2 _ c2 1 ys hFl.out n2'.out hm2.out (Nat.le_refl _) (Nat.le_of_eq (Nat.zero_add _)) y2.out b2.out (by decide) _ hb2.out (i2.out.below hbl.out)).mono ?_
    rintro e w2 ⟨rfl, hb4, hgr4⟩
    replace hb4 := hidIt (hsum.out w2 hb4)
    replace hbl := hidIt (below_at (Nat.le_refl _) hbl.out hgr4)
    clear hgr4
    go_wp2_with (fail)
    refine (trim2_any _ _ _ (plus xs ys) hpl.out hpx.out hdb.out _ hb4.out).mono ?_
    rintro e w3 ⟨⟨v, rfl, hmade⟩, hbel⟩
    replace hmade := hidIt hmade
    replace hbel := hidIt hbel
    go_wp2
    go_ret
    exact ⟨⟨_, rfl, hmade.out.mono hbl.out.size⟩, hbl.out.trans (hbel.out.mono hbl.out.size)⟩
end Go.Proofs.Ytcnjcfmgkkghjaa
