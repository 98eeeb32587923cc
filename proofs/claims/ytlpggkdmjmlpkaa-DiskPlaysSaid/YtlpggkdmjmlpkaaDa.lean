import Derived.Test.YtlpggkdmjmlpkaaDr
import Derived.Test.YtlpggkdmjmlpkaaCopyB
namespace Go.Proofs.Ytlpggkdmjmlpkaa
open Go.RowKit
section
variable {w w' : World} {g dB : Nat} {A : Nat → Option Nat} {pv : Value} {P : Nat → Nat} {D : Dsk}
theorem DX.ne (h : DX w g dB A pv P D) {b : Nat} (hb : b = dB ∨ (∃ i, i < D.n ∧ A i = some b) ∨ pv.ownBlock = some b ∨ ∃ j, j < D.np ∧ P j = b) : b ≠ g := by
  rcases hb with rfl | ⟨i, hi, hA⟩ | hp | ⟨j, hj, rfl⟩
  · exact blk_ne h.row h.blk (by decide)
  · exact blk_ne (h.sec i b hi hA) h.blk (by decide)
  · obtain ⟨cs, hc⟩ := own_blk h.own hp; exact blk_ne hc h.blk (by decide)
  · exact blk_ne (h.pen j hj) h.blk (by decide)
/-- only the block g has been written: a field of the disk -/
theorem DX.field (h : DX w g dB A pv P D) (hg : w.grownBy w' (some g)) {D' : Dsk} {pv' : Value} (hwf : D'.WF)
    (hB : Blk w' g 62 #[.int .i64 (D'.size : Int), .slice (some ⟨dB, 0, none⟩) D'.n D'.n, pv', .int .i64 D'.left, .bool D'.down])
    (e1 : D'.size = D.size) (e2 : D'.n = D.n) (e3 : D'.dur = D.dur) (hp : (pv' = pv ∧ D'.np = D.np ∧ D'.ps = D.ps ∧ D'.pb = D.pb) ∨ (pv' = .slice none 0 0 ∧ D'.np = 0)) : DX w' g dB A pv' P D' := by
  have ot : ∀ b, b < w.heap.size → b ≠ g → w'.heap[b]? = w.heap[b]? := fun b h1 h2 => hg.block b h1 (fun e => h2 (by cases e; rfl))
  refine ⟨hwf, hB, ?_, fun i hi hA => ?_, fun i b hi hA => ?_, ?_, fun j hj => ?_, fun i k b hi hk => ?_, fun i j hi hj => ?_⟩
  · rw [e1, e2]; exact (ot dB h.row.lt (h.ne (.inl rfl))).trans h.row
  · rw [e3, e1]; rw [e2] at hi; exact h.nil i hi hA
  · rw [e3]; rw [e2] at hi
    have hs := h.sec i b hi hA
    exact (ot b (Blk.lt hs) (h.ne (.inr (.inl ⟨i, hi, hA⟩)))).trans hs
  · rcases hp with ⟨rfl, e4, e5, _⟩ | ⟨rfl, e4⟩
    · rw [e4, e5, e1]
      exact own_blocks h.own (fun b e => ot b (by obtain ⟨cs, hc⟩ := own_blk h.own e; exact hc.lt) (h.ne (.inr (.inr (.inl e)))))
    · rw [e4]; exact World.ownsRow_nil _ _ _ _
  · rcases hp with ⟨rfl, e4, _, e6⟩ | ⟨_, e4⟩
    · rw [e6]; rw [e4] at hj
      exact (ot (P j) (Blk.lt (h.pen j hj)) (h.ne (.inr (.inr (.inr ⟨j, hj, rfl⟩))))).trans (h.pen j hj)
    · omega
  · rw [e2] at hi hk; exact h.inj i k b hi hk
  · rw [e2] at hi
    rcases hp with ⟨_, e4, _, _⟩ | ⟨_, e4⟩
    · rw [e4] at hj; exact h.dis i j hi hj
    · omega
end
theorem grownBy_setC (W : World) (g l : Nat) (v : Value) : W.grownBy (W.setCell ⟨g, l, none⟩ v) (some g) :=
  ⟨rfl, rfl, rfl, by simp, fun k _ hk => Below.heap_setCell W ⟨g, l, none⟩ v k (fun e => hk (by rw [e]))⟩
theorem Step.of_grown {w w' : World} {S : Nat → Prop} {b : Nat} (h : w.grownBy w' (some b)) (hb : S b) : Step w w' S S := ⟨h.os, h.tape, h.output, h.size, fun i hi hn => h.block i hi (fun e => hn (by cases e; exact hb)), fun _ h => .inl h⟩
/-- the fields of a disk as cells -/
structure DF (w : World) (g dB : Nat) (pv : Value) (size n : Nat) (left : Int) (down : Bool) : Prop where
  size : w.cell? ⟨g, 0, none⟩ = some (.int .i64 (size : Int))
  dur : w.cell? ⟨g, 1, none⟩ = some (.slice (some ⟨dB, 0, none⟩) n n)
  pend : w.cell? ⟨g, 2, none⟩ = some pv
  left : w.cell? ⟨g, 3, none⟩ = some (.int .i64 left)
  down : w.cell? ⟨g, 4, none⟩ = some (.bool down)
  fz : ∀ i, w.frozen? ⟨g, i, none⟩ = false
theorem DX.fields {w : World} {g dB : Nat} {A : Nat → Option Nat} {pv : Value} {P : Nat → Nat} {D : Dsk} (h : DX w g dB A pv P D) : DF w g dB pv D.size D.n D.left D.down :=
  ⟨(h.blk.cell 0).trans rfl, (h.blk.cell 1).trans rfl, (h.blk.cell 2).trans rfl, (h.blk.cell 3).trans rfl, (h.blk.cell 4).trans rfl, fun i => h.blk.frozen i⟩
set_option maxRecDepth 100000 in
theorem has_any (g dB n size : Nat) (pv : Value) (left : Int) (down : Bool) (s : Int) (w : World) (h : DF w g dB pv size n left down) (_hn : (n : Int) ≤ 65536) :
    Calls Try.prog 38 #[.pointer (some ⟨g, 0, none⟩), .int .i64 s] w fun e w' => e = .returned (.bool (decide (0 ≤ s ∧ s < n))) ∧ w = w' := by
  obtain ⟨f0, f1, f2, f3, f4, fz⟩ := h
  obtain ⟨r, hr⟩ : ∃ r, Hid (decide (0 ≤ s ∧ s < (n : Int)) = r) := ⟨_, rfl⟩
  rw [hr.out]
  by_cases h1 : s ≥ 0
  · by_cases h2 : s < n
    · go_enter Try.func38, Try.ntmps38
      go_wp2
      go_ret
      exact ⟨by rw [show r = true by rw [← hr.out]; exact decide_eq_true ⟨h1, h2⟩]; rfl, rfl⟩
    · go_enter Try.func38, Try.ntmps38
      go_wp2
      go_ret
      exact ⟨by rw [show r = false by rw [← hr.out]; exact decide_eq_false (by omega)]; rfl, rfl⟩
  · go_enter Try.func38, Try.ntmps38
    go_wp2
    go_ret
    exact ⟨by rw [show r = false by rw [← hr.out]; exact decide_eq_false (by omega)]; rfl, rfl⟩
set_option maxRecDepth 100000 in
theorem sectors_any (g : Nat) (S : Nat → Prop) (D : Dsk) (w : World) (h : Hid (DK w S g D)) :
    Calls Try.prog 14 #[.pointer (some ⟨g, 0, none⟩)] w fun e w' => e = .returned (.int .i64 (D.n : Int)) ∧ w = w' := by
  obtain ⟨⟨dB, A, pv, P, hX, _⟩, _⟩ := h.out
  obtain ⟨f0, f1, f2, f3, f4, fz⟩ := hX.fields
  clear h hX
  go_enter Try.func14, Try.ntmps14
  go_wp2
  go_ret
  exact ⟨rfl, rfl⟩
set_option maxRecDepth 100000 in
theorem size_any (g : Nat) (S : Nat → Prop) (D : Dsk) (w : World) (h : Hid (DK w S g D)) :
    Calls Try.prog 15 #[.pointer (some ⟨g, 0, none⟩)] w fun e w' => e = .returned (.int .i64 (D.size : Int)) ∧ w = w' := by
  obtain ⟨⟨dB, A, pv, P, hX, _⟩, _⟩ := h.out
  obtain ⟨f0, f1, f2, f3, f4, fz⟩ := hX.fields
  clear h hX
  go_enter Try.func15, Try.ntmps15
  go_wp2
  go_ret
  exact ⟨rfl, rfl⟩
set_option maxRecDepth 100000 in
theorem down_any (g : Nat) (S : Nat → Prop) (D : Dsk) (w : World) (h : Hid (DK w S g D)) :
    Calls Try.prog 16 #[.pointer (some ⟨g, 0, none⟩)] w fun e w' => e = .returned (.bool D.down) ∧ w = w' := by
  obtain ⟨⟨dB, A, pv, P, hX, _⟩, _⟩ := h.out
  obtain ⟨f0, f1, f2, f3, f4, fz⟩ := hX.fields
  clear h hX
  go_enter Try.func16, Try.ntmps16
  go_wp2
  go_ret
  exact ⟨rfl, rfl⟩
/-- the slice of the pending writes -/
theorem DX.pend {w : World} {g dB : Nat} {A : Nat → Option Nat} {pv : Value} {P : Nat → Nat} {D : Dsk} (h : DX w g dB A pv P D) : ∃ a c, pv = .slice a D.np c ∧ D.np ≤ c ∧ ∀ j, j < D.np → ∃ b, a = some ⟨b, 0, none⟩ ∧ b < w.heap.size ∧ w.cell? ⟨b, j * 2, none⟩ = some (.int .i64 (D.ps j : Int)) ∧ w.cell? ⟨b, j * 2 + 1, none⟩ = some (.slice (some ⟨P j, 0, none⟩) D.size D.size) := by
  rcases h.own.2 with ⟨hv, h0⟩ | ⟨b, cap, cur, hv, _, hg, hle, hcm, hsz, htk⟩
  · exact ⟨none, 0, by rw [hv, h0], by omega, fun j hj => by omega⟩
  · refine ⟨_, cap, hv, hle, fun j hj => ⟨b, rfl, Blk.lt hg, ?_⟩⟩
    obtain ⟨p1, p2⟩ := pcl_get P D.ps D.size D.np j hj
    have at_ : ∀ k v, k < D.np * 2 → (pcl P D.ps D.size D.np)[k]? = some v → w.cell? ⟨b, k, none⟩ = some v := fun k v hk hk2 => by
      rw [← htk, List.getElem?_take, if_pos hk] at hk2
      rw [cell_of_row w b k _ _ _ hg, ← hk2, Array.getElem?_toList]
    exact ⟨at_ _ _ (by omega) p1, at_ _ _ (by omega) p2⟩
set_option maxRecDepth 100000 in
theorem pending_any (g : Nat) (S : Nat → Prop) (D : Dsk) (w : World) (h : Hid (DK w S g D)) :
    Calls Try.prog 17 #[.pointer (some ⟨g, 0, none⟩)] w fun e w' => e = .returned (.int .i64 (D.np : Int)) ∧ w = w' := by
  obtain ⟨⟨dB, A, pv, P, hX, _⟩, _⟩ := h.out
  obtain ⟨f0, f1, f2, f3, f4, fz⟩ := hX.fields
  obtain ⟨a, c, rfl, _, _⟩ := hX.pend
  clear h hX
  go_enter Try.func17, Try.ntmps17
  go_wp2
  go_ret
  exact ⟨rfl, rfl⟩
/-- a new disk state in the same blocks -/
theorem DK.field {w w' : World} {S : Nat → Prop} {g dB : Nat} {A : Nat → Option Nat} {pv pv' : Value} {P : Nat → Nat} {D D' : Dsk} (hX : DX w' g dB A pv' P D') (hS : ∀ b, FP g dB A pv P D.n D.np b → S b) (hlt : ∀ b, S b → b < w.heap.size) (hsz : w.heap.size ≤ w'.heap.size) (e2 : D'.n = D.n) (hp : (pv' = pv ∧ D'.np = D.np) ∨ (pv' = .slice none 0 0 ∧ D'.np = 0)) : DK w' S g D' := by
  refine ⟨⟨dB, A, pv', P, hX, fun b hb => hS b ?_⟩, fun b hb => Nat.lt_of_lt_of_le (hlt b hb) hsz⟩
  rw [e2] at hb
  rcases hp with ⟨rfl, e⟩ | ⟨rfl, e⟩
  · rw [e] at hb; exact hb
  · rcases hb with h | h | h | h | ⟨j, hj, _⟩
    · exact .inl h
    · exact .inr (.inl h)
    · exact .inr (.inr (.inl h))
    · simp [Value.ownBlock] at h
    · omega
set_option maxRecDepth 100000 in
theorem operate_any (g dB : Nat) (A : Nat → Option Nat) (pv : Value) (P : Nat → Nat) (D : Dsk) (w : World) (hX : Hid (DX w g dB A pv P D)) :
    Calls Try.prog 39 #[.pointer (some ⟨g, 0, none⟩)] w fun e w' => e = .returned (.int .i64 (D.oper.1 : Int)) ∧ DX w' g dB A pv P D.oper.2 ∧ w.grownBy w' (some g) := by
  obtain ⟨f0, f1, f2, f3, f4, fz⟩ := hX.out.fields
  have f33 := fz 3
  have f44 := fz 4
  obtain ⟨lf, hlf⟩ : ∃ lf, Hid (D.left = lf) := ⟨_, rfl⟩
  have l2 := hX.out.wf.l2
  have l1 := hX.out.wf.l1
  have hcs := hidIt (Dsk.oper_cases D hX.out.wf)
  have dnX : Hid (∀ D', D'.WF → D'.size = D.size → D'.n = D.n → D'.dur = D.dur → D'.np = D.np → D'.ps = D.ps → D'.pb = D.pb → ∀ k v, #[.int .i64 (D.size : Int), .slice (some ⟨dB, 0, none⟩) D.n D.n, pv, .int .i64 D.left, .bool D.down].setIfInBounds k v = #[.int .i64 (D'.size : Int), .slice (some ⟨dB, 0, none⟩) D'.n D'.n, pv, .int .i64 D'.left, .bool D'.down] → DX (w.setCell ⟨g, k, none⟩ v) g dB A pv P D') := fun D' hw e1 e2 e3 e4 e5 e6 k v hk =>
    hX.out.field (grownBy_setC w g k v) hw (by rw [← hk]; exact hX.out.blk.set_ k v) e1 e2 e3 (.inl ⟨rfl, e4, e5, e6⟩)
  rw [hlf.out] at f3 l1 l2
  clear fz
  by_cases h1 : lf = -1
  · have he : Hid (D.oper = (0, D)) := by
      rcases hcs.out with ⟨_, e⟩ | ⟨a, _⟩ | ⟨a, _⟩
      · exact e
      · rw [hlf.out] at a; omega
      · rw [hlf.out] at a; omega
    clear hcs dnX
    subst h1
    go_enter Try.func39, Try.ntmps39
    go_wp2
    go_ret
    rw [he.out]
    exact ⟨rfl, hX.out, g_refl _ _⟩
  · by_cases h2 : lf > 0
    · have he : Hid (D.oper = (0, { D with left := lf - 1 })) := by
        rcases hcs.out with ⟨a, _⟩ | ⟨_, e⟩ | ⟨a, _⟩
        · rw [hlf.out] at a; omega
        · rw [hlf.out] at e; exact e
        · rw [hlf.out] at a; omega
      have hd := hidIt (dnX.out { D with left := lf - 1 } (hX.out.wf.setLeft (by omega) (by omega)) rfl rfl rfl rfl rfl rfl 3 (.int .i64 (lf - 1)) rfl)
      have hd2 := hidIt (grownBy_setC w g 3 (.int .i64 (lf - 1)))
      clear hcs dnX hX
      go_enter Try.func39, Try.ntmps39
      go_wp2
      go_ret
      rw [he.out]
      exact ⟨rfl, hd.out, hd2.out⟩
    · have he : Hid (D.oper = (8, { D with down := true })) := by
        rcases hcs.out with ⟨a, _⟩ | ⟨a, _⟩ | ⟨_, e⟩
        · rw [hlf.out] at a; omega
        · rw [hlf.out] at a; omega
        · exact e
      have hd := hidIt (dnX.out { D with down := true } (hX.out.wf.setDown true) rfl rfl rfl rfl rfl rfl 4 (.bool true) rfl)
      have hd2 := hidIt (grownBy_setC w g 4 (.bool true))
      clear hcs dnX hX
      go_enter Try.func39, Try.ntmps39
      go_wp2
      go_ret
      rw [he.out]
      exact ⟨rfl, hd.out, hd2.out⟩
set_option maxRecDepth 100000 in
theorem fail_any (g : Nat) (S : Nat → Prop) (D : Dsk) (a : Int) (ha : a < 9223372036854775808) (w : World) (h : Hid (DK w S g D)) :
    Calls Try.prog 29 #[.pointer (some ⟨g, 0, none⟩), .int .i64 a] w fun e w' => e = .returned (.tuple #[]) ∧ DK w' S g (D.fail a) ∧ Step w w' S S := by
  obtain ⟨⟨dB, A, pv, P, hX, hS⟩, hlt⟩ := h.out
  obtain ⟨f0, f1, f2, f3, f4, fz⟩ := hX.fields
  have f33 := fz 3
  have hd : Hid (DK (w.setCell ⟨g, 3, none⟩ (.int .i64 (max a (-1)))) S g (D.fail a)) :=
    DK.field (hX.field (grownBy_setC w g 3 (.int .i64 (max a (-1)))) (hX.wf.fail ha) (hX.blk.set_ 3 _) rfl rfl rfl (.inl ⟨rfl, rfl, rfl, rfl⟩)) hS hlt (by simp) rfl (.inl ⟨rfl, rfl⟩)
  have hd2 : Hid (Step w (w.setCell ⟨g, 3, none⟩ (.int .i64 (max a (-1)))) S S) := Step.of_grown (grownBy_setC w g 3 _) (hS g (.inl rfl))
  clear h hX fz hS hlt
  by_cases hc : -1 ≤ a
  · rw [show max a (-1) = a by omega] at hd hd2
    go_enter Try.func29, Try.ntmps29
    go_wp2
    go_end0
    exact ⟨rfl, hd.out, hd2.out⟩
  · rw [show max a (-1) = -1 by omega] at hd hd2
    go_enter Try.func29, Try.ntmps29
    go_wp2
    go_end0
    exact ⟨rfl, hd.out, hd2.out⟩
/-- a copy of a sector -/
def CpR (w : World) (e : Ending) (w' : World) (size : Nat) (bs : List Nat) : Prop := e = .returned (.slice (some ⟨w.heap.size, 0, none⟩) size size) ∧ BB w' w.heap.size bs ∧ w.heap.size < w'.heap.size ∧ Below w.heap.size w w'
theorem BB.of {w : World} {b n : Nat} {F : Nat → Nat} {bs : List Nat} (h : Blk w b 5 (rowA .u8 F n n)) (hl : bs.length = n) (hF : ∀ i, i < n → F i = bs.getD i 0) : BB w b bs := by
  subst hl
  show Blk _ _ _ _
  unfold rowb
  rw [← rowA_congr hF]
  exact h
theorem rowb_of (F : Nat → Nat) (n : Nat) (bs : List Nat) (hl : bs.length = n) (h : ∀ i, i < n → F i = bs.getD i 0) : rowA .u8 F n n = rowb bs := by
  subst hl; exact rowA_congr h
set_option maxRecDepth 100000 in
theorem copied_any (g dB n size : Nat) (pv : Value) (left : Int) (down : Bool) (a : Option Addr) (len cap : Nat) (bs : List Nat) (w : World) (h : DF w g dB pv size n left down) (hs : size ≤ 4096) (hb : Bytes w a bs) (hl : len = bs.length) (hz : bs.length = size) :
    Calls Try.prog 31 #[.pointer (some ⟨g, 0, none⟩), .slice a len cap] w fun e w' => CpR w e w' size bs := by
  obtain ⟨f0, f1, f2, f3, f4, fz⟩ := h
  have hmk := makeLen size (by omega) w
  have hB : Hid (Blk (w.alloc (.cells (rowA .u8 (fun _ => 0) size size) 5)) w.heap.size 5 (rowA .u8 (fun _ => 0) size size)) := Blk.new w _ _
  rw [show rowA .u8 (fun _ => 0) size 0 = rowA .u8 (fun _ => 0) size size by
    apply Array.ext_getElem?; intro i
    by_cases hi : i < size
    · rw [rowA_get _ _ _ _ _ hi, rowA_all _ _ _ _ hi, if_neg (Nat.not_lt_zero _)]; rfl
    · rw [Array.getElem?_eq_none (by rw [rowA_size]; omega), Array.getElem?_eq_none (by rw [rowA_size]; omega)]] at hmk
  have hby := hidIt (hb.below ((Below.refl w.heap.size w).alloc (Nat.le_refl _) (.cells (rowA .u8 (fun _ => 0) size size) 5)))
  have hzz := hidIt hz
  have hll : Hid (size = Nat.min len size) := (by rw [hl, hz]; exact (Nat.min_self _).symm : size = Nat.min len size)
  clear hb hl hz f1 f2 f3 f4 fz
  go_enter Try.func31, Try.ntmps31
  go_wp2_with (refine wpList_copy_blk rfl _ _ rfl _ _ _ _ _ _ rfl rfl w.heap.size 0 size (fun _ => 0) 5 hB.out bs hby.out size hll.out (by have := hzz.out; omega) (fun _ => rfl) (by omega) ?_; intro w2 hB2 hg2; replace hB2 := hidIt hB2; replace hg2 := hidIt hg2)
  have hfin : Hid (BB w2 w.heap.size bs) := BB.of hB2.out hzz.out (fun i hi => by show (if _ then _ else _) = _; rw [if_pos ⟨Nat.zero_le _, by omega⟩, Nat.sub_zero])
  have hbel : Hid (Below w.heap.size w w2) := ((Below.refl w.heap.size w).alloc (Nat.le_refl _) _).grown hg2.out (by simp) (fun q hq => by cases hq; exact Nat.le_refl _)
  have hlt : Hid (w.heap.size < w2.heap.size) := by have := hg2.out.size; simp at this; exact this
  clear hB2 hg2
  go_ret
  exact ⟨rfl, hfin.out, hlt.out, hbel.out⟩
end Go.Proofs.Ytlpggkdmjmlpkaa
