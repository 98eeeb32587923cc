import Derived.Test.YtlpggkdmjmlpkaaRf0
import Derived.Test.YtlpggkdmjmlpkaaDop
namespace Go.Proofs.Ytlpggkdmjmlpkaa
open Go.RowKit
section
variable {w w' : World} {g : Nat} {dv lv : Value} {Q C P PC : Nat → Nat} {D : Dsk}
theorem RefX.ne (h : RefX w g dv lv Q C P PC D) {b : Nat} (hb : dv.ownBlock = some b ∨ lv.ownBlock = some b ∨ (∃ i, i < D.n ∧ Q i = b) ∨ ∃ j, j < D.np ∧ P j = b) : b ≠ g := by
  rcases hb with e | e | ⟨i, hi, rfl⟩ | ⟨j, hj, rfl⟩
  · obtain ⟨cs, hc⟩ := own_blk h.row e; exact blk_ne hc h.blk (by decide)
  · obtain ⟨cs, hc⟩ := own_blk h.own e; exact blk_ne hc h.blk (by decide)
  · exact (h.sec i hi).ne h.blk (by decide)
  · exact (h.pen j hj).ne h.blk (by decide)
theorem RefX.lt (h : RefX w g dv lv Q C P PC D) {b : Nat} (hb : RF g dv lv Q P D.n D.np b) : b < w.heap.size := by
  rcases hb with rfl | e | e | ⟨i, hi, rfl⟩ | ⟨j, hj, rfl⟩
  · exact h.blk.lt
  · obtain ⟨cs, hc⟩ := own_blk h.row e; exact hc.lt
  · obtain ⟨cs, hc⟩ := own_blk h.own e; exact hc.lt
  · exact (h.sec i hi).lt
  · exact (h.pen j hj).lt
theorem RefX.frame (h : RefX w g dv lv Q C P PC D) (hb : ∀ b, RF g dv lv Q P D.n D.np b → w'.heap[b]? = w.heap[b]?) : RefX w' g dv lv Q C P PC D :=
  ⟨h.wf, (hb g (.inl rfl)).trans h.blk, own_blocks h.row (fun b e => hb b (.inr (.inl e))), fun i hi => (h.sec i hi).keep (hb _ (.inr (.inr (.inr (.inl ⟨i, hi, rfl⟩))))), h.cap,
    own_blocks h.own (fun b e => hb b (.inr (.inr (.inl e)))), fun j hj => (h.pen j hj).keep (hb _ (.inr (.inr (.inr (.inr ⟨j, hj, rfl⟩))))), h.pcap, h.inj, h.dis⟩
theorem RefX.below (h : RefX w g dv lv Q C P PC D) (hb : Below w.heap.size w w') : RefX w' g dv lv Q C P PC D := h.frame fun b k => hb.block b (h.lt k)
theorem RK.below {S : Nat → Prop} (h : RK w S g D) (hb : Below w.heap.size w w') : RK w' S g D := by
  obtain ⟨⟨dv, lv, Q, C, P, PC, h1, h2⟩, h3⟩ := h
  exact ⟨⟨dv, lv, Q, C, P, PC, h1.below hb, h2⟩, fun b k => Nat.lt_of_lt_of_le (h3 b k) hb.size⟩
/-- only the block g has been written: a field of the reference's disk -/
theorem RefX.field (h : RefX w g dv lv Q C P PC D) (hg : w.grownBy w' (some g)) {D' : Dsk} {lv' : Value} (hwf : D'.WF)
    (hB : Blk w' g 34 #[.int .i64 (D'.size : Int), dv, lv', .bool D'.down, .int .i64 D'.left])
    (e1 : D'.size = D.size) (e2 : D'.n = D.n) (e3 : D'.dur = D.dur) (hp : (lv' = lv ∧ D'.np = D.np ∧ D'.ps = D.ps ∧ D'.pb = D.pb) ∨ (lv' = .slice none 0 0 ∧ D'.np = 0)) : RefX w' g dv lv' Q C P PC D' := by
  have ot : ∀ b, b < w.heap.size → b ≠ g → w'.heap[b]? = w.heap[b]? := fun b h1 h2 => hg.block b h1 (fun e => h2 (by cases e; rfl))
  refine ⟨hwf, hB, ?_, fun i hi => ?_, fun i hi => ?_, ?_, fun j hj => ?_, fun j hj => ?_, fun i k hi hk => ?_, fun i j hi hj => ?_⟩
  · rw [e1, e2]; exact own_blocks h.row (fun b e => ot b (h.lt (.inr (.inl e))) (h.ne (.inl e)))
  · rw [e3]; rw [e2] at hi; exact (h.sec i hi).keep (ot _ (h.sec i hi).lt (h.ne (.inr (.inr (.inl ⟨i, hi, rfl⟩)))))
  · rw [e1]; rw [e2] at hi; exact h.cap i hi
  · rcases hp with ⟨rfl, e4, e5, _⟩ | ⟨rfl, e4⟩
    · rw [e4, e5, e1]; exact own_blocks h.own (fun b e => ot b (h.lt (.inr (.inr (.inl e)))) (h.ne (.inr (.inl e))))
    · rw [e4]; exact World.ownsRow_nil _ _ _ _
  · rcases hp with ⟨rfl, e4, _, e6⟩ | ⟨_, e4⟩
    · rw [e6]; rw [e4] at hj
      exact (h.pen j hj).keep (ot _ (h.pen j hj).lt (h.ne (.inr (.inr (.inr ⟨j, hj, rfl⟩)))))
    · omega
  · rcases hp with ⟨_, e4, _, _⟩ | ⟨_, e4⟩
    · rw [e1]; rw [e4] at hj; exact h.pcap j hj
    · omega
  · rw [e2] at hi hk; exact h.inj i k hi hk
  · rw [e2] at hi
    rcases hp with ⟨_, e4, _, _⟩ | ⟨_, e4⟩
    · rw [e4] at hj; exact h.dis i j hi hj
    · omega
end
/-- the fields of the reference's disk as cells -/
structure RFl (w : World) (g : Nat) (dv lv : Value) (size : Nat) (left : Int) (down : Bool) : Prop where
  size : w.cell? ⟨g, 0, none⟩ = some (.int .i64 (size : Int))
  dur : w.cell? ⟨g, 1, none⟩ = some dv
  pend : w.cell? ⟨g, 2, none⟩ = some lv
  down : w.cell? ⟨g, 3, none⟩ = some (.bool down)
  left : w.cell? ⟨g, 4, none⟩ = some (.int .i64 left)
  fz : ∀ i, w.frozen? ⟨g, i, none⟩ = false
theorem RefX.fields {w : World} {g : Nat} {dv lv : Value} {Q C P PC : Nat → Nat} {D : Dsk} (h : RefX w g dv lv Q C P PC D) : RFl w g dv lv D.size D.left D.down :=
  ⟨(h.blk.cell 0).trans rfl, (h.blk.cell 1).trans rfl, (h.blk.cell 2).trans rfl, (h.blk.cell 3).trans rfl, (h.blk.cell 4).trans rfl, fun i => h.blk.frozen i⟩
/-- the row of the sectors -/
theorem RefX.durc {w : World} {g : Nat} {dv lv : Value} {Q C P PC : Nat → Nat} {D : Dsk} (h : RefX w g dv lv Q C P PC D) : ∃ b c, dv = .slice (some ⟨b, 0, none⟩) D.n c ∧ D.n ≤ c ∧ b < w.heap.size ∧ ∀ i, i < D.n → w.cell? ⟨b, i, none⟩ = some (.slice (some ⟨Q i, 0, none⟩) D.size (C i)) ∧ w.frozen? ⟨b, i, none⟩ = false := by
  obtain ⟨a, c, e, hc, hx⟩ := own_cells h.row
  obtain ⟨b, rfl, ho, _, _⟩ := hx 0 _ h.wf.n1 (rcl_get Q C D.size D.n 0 h.wf.n1)
  refine ⟨b, c, e, hc, h.lt (.inr (.inl ho)), fun i hi => ?_⟩
  obtain ⟨b', e', _, h1, h2⟩ := hx i _ hi (rcl_get Q C D.size D.n i hi)
  cases e'
  exact ⟨h1, h2⟩
/-- a new state of the reference's disk in the same blocks -/
theorem RK.field {w w' : World} {S : Nat → Prop} {g : Nat} {dv lv lv' : Value} {Q C P PC : Nat → Nat} {D D' : Dsk} (hX : RefX w' g dv lv' Q C P PC D') (hS : ∀ b, RF g dv lv Q P D.n D.np b → S b) (hlt : ∀ b, S b → b < w.heap.size) (hsz : w.heap.size ≤ w'.heap.size) (e2 : D'.n = D.n) (hp : (lv' = lv ∧ D'.np = D.np) ∨ (lv' = .slice none 0 0 ∧ D'.np = 0)) : RK w' S g D' := by
  refine ⟨⟨dv, lv', Q, C, P, PC, hX, fun b hb => hS b ?_⟩, fun b hb => Nat.lt_of_lt_of_le (hlt b hb) hsz⟩
  rw [e2] at hb
  rcases hp with ⟨rfl, e⟩ | ⟨rfl, e⟩
  · rw [e] at hb; exact hb
  · rcases hb with h | h | h | h | ⟨j, hj, _⟩
    · exact .inl h
    · exact .inr (.inl h)
    · simp [Value.ownBlock] at h
    · exact .inr (.inr (.inr (.inl h)))
    · omega
set_option maxRecDepth 100000 in
theorem rsector_any (g b n c size : Nat) (lv : Value) (left : Int) (down : Bool) (s : Int) (w : World) (h : RFl w g (.slice (some ⟨b, 0, none⟩) n c) lv size left down) (_hn : (n : Int) ≤ 65536) :
    Calls Try.prog 43 #[.pointer (some ⟨g, 0, none⟩), .int .i64 s] w fun e w' => e = .returned (.bool (decide (0 ≤ s ∧ s < n))) ∧ w = w' := by
  obtain ⟨f0, f1, f2, f3, f4, fz⟩ := h
  obtain ⟨r, hr⟩ : ∃ r, Hid (decide (0 ≤ s ∧ s < (n : Int)) = r) := ⟨_, rfl⟩
  rw [hr.out]
  by_cases h1 : s ≥ 0
  · by_cases h2 : s < n
    · go_enter Try.func43, Try.ntmps43
      go_wp2
      go_ret
      exact ⟨by rw [show r = true by rw [← hr.out]; exact decide_eq_true ⟨h1, h2⟩]; rfl, rfl⟩
    · go_enter Try.func43, Try.ntmps43
      go_wp2
      go_ret
      exact ⟨by rw [show r = false by rw [← hr.out]; exact decide_eq_false (by omega)]; rfl, rfl⟩
  · go_enter Try.func43, Try.ntmps43
    go_wp2
    go_ret
    exact ⟨by rw [show r = false by rw [← hr.out]; exact decide_eq_false (by omega)]; rfl, rfl⟩
set_option maxRecDepth 100000 in
theorem rfails_any (g : Nat) (dv lv : Value) (Q C P PC : Nat → Nat) (D : Dsk) (w : World) (hX : Hid (RefX w g dv lv Q C P PC D)) :
    Calls Try.prog 44 #[.pointer (some ⟨g, 0, none⟩)] w fun e w' => e = .returned (.bool (decide (D.oper.1 ≠ 0))) ∧ RefX w' g dv lv Q C P PC D.oper.2 ∧ w.grownBy w' (some g) := by
  obtain ⟨f0, f1, f2, f3, f4, fz⟩ := hX.out.fields
  have f33 := fz 3
  have f44 := fz 4
  obtain ⟨lf, hlf⟩ : ∃ lf, Hid (D.left = lf) := ⟨_, rfl⟩
  have l2 := hX.out.wf.l2
  have l1 := hX.out.wf.l1
  have hcs := hidIt (Dsk.oper_cases D hX.out.wf)
  have dnX : Hid (∀ D', D'.WF → D'.size = D.size → D'.n = D.n → D'.dur = D.dur → D'.np = D.np → D'.ps = D.ps → D'.pb = D.pb → ∀ k v, #[.int .i64 (D.size : Int), dv, lv, .bool D.down, .int .i64 D.left].setIfInBounds k v = #[.int .i64 (D'.size : Int), dv, lv, .bool D'.down, .int .i64 D'.left] → RefX (w.setCell ⟨g, k, none⟩ v) g dv lv Q C P PC D') := fun D' hw e1 e2 e3 e4 e5 e6 k v hk =>
    hX.out.field (grownBy_setC w g k v) hw (by rw [← hk]; exact hX.out.blk.set_ k v) e1 e2 e3 (.inl ⟨rfl, e4, e5, e6⟩)
  rw [hlf.out] at f4 l1 l2
  clear fz
  by_cases h1 : lf = 0
  · have he : Hid (D.oper = (8, { D with down := true })) := by
      rcases hcs.out with ⟨a, _⟩ | ⟨a, _⟩ | ⟨_, e⟩
      · rw [hlf.out] at a; omega
      · rw [hlf.out] at a; omega
      · exact e
    have hd := hidIt (dnX.out { D with down := true } (hX.out.wf.setDown true) rfl rfl rfl rfl rfl rfl 3 (.bool true) rfl)
    have hd2 := hidIt (grownBy_setC w g 3 (.bool true))
    clear hcs dnX hX
    subst h1
    go_enter Try.func44, Try.ntmps44
    go_wp2
    go_ret
    rw [he.out]
    exact ⟨rfl, hd.out, hd2.out⟩
  · by_cases h2 : lf > 0
    · have he : Hid (D.oper = (0, { D with left := lf - 1 })) := by
        rcases hcs.out with ⟨a, _⟩ | ⟨_, e⟩ | ⟨a, _⟩
        · rw [hlf.out] at a; omega
        · rw [hlf.out] at e; exact e
        · rw [hlf.out] at a; omega
      have hd := hidIt (dnX.out { D with left := lf - 1 } (hX.out.wf.setLeft (by omega) (by omega)) rfl rfl rfl rfl rfl rfl 4 (.int .i64 (lf - 1)) rfl)
      have hd2 := hidIt (grownBy_setC w g 4 (.int .i64 (lf - 1)))
      clear hcs dnX hX
      go_enter Try.func44, Try.ntmps44
      go_wp2
      go_ret
      rw [he.out]
      exact ⟨rfl, hd.out, hd2.out⟩
    · have he : Hid (D.oper = (0, D)) := by
        rcases hcs.out with ⟨_, e⟩ | ⟨a, _⟩ | ⟨a, _⟩
        · exact e
        · rw [hlf.out] at a; omega
        · rw [hlf.out] at a; omega
      have hm : lf = -1 := by omega
      clear hcs dnX h1 h2
      subst hm
      go_enter Try.func44, Try.ntmps44
      go_wp2
      go_ret
      rw [he.out]
      exact ⟨rfl, hX.out, g_refl _ _⟩
/-- what the reference's Fail does -/
def Dsk.rfail (D : Dsk) (a : Int) : Dsk := if D.down = true then D else D.fail a
set_option maxRecDepth 100000 in
theorem rfail_any (g : Nat) (S : Nat → Prop) (D : Dsk) (a : Int) (ha : a < 9223372036854775808) (w : World) (h : Hid (RK w S g D)) :
    Calls Try.prog 35 #[.pointer (some ⟨g, 0, none⟩), .int .i64 a] w fun e w' => e = .returned (.tuple #[]) ∧ RK w' S g (D.rfail a) ∧ Step w w' S S := by
  obtain ⟨⟨dv, lv, Q, C, P, PC, hX, hS⟩, hlt⟩ := h.out
  obtain ⟨f0, f1, f2, f3, f4, fz⟩ := hX.fields
  by_cases hd : D.down = true
  · have he : Hid (D.rfail a = D) := if_pos hd
    rw [hd] at f3
    rw [he.out]
    go_enter Try.func35, Try.ntmps35
    go_wp2
    go_end0
    exact ⟨rfl, h.out, Step.refl _ _⟩
  · have he : Hid (D.rfail a = D.fail a) := if_neg hd
    have hd' : D.down = false := by simpa using hd
    rw [he.out]
    have f44 := fz 4
    have hd : Hid (RK (w.setCell ⟨g, 4, none⟩ (.int .i64 (max a (-1)))) S g (D.fail a)) :=
      RK.field (hX.field (grownBy_setC w g 4 (.int .i64 (max a (-1)))) (hX.wf.fail ha) (hX.blk.set_ 4 _) rfl rfl rfl (.inl ⟨rfl, rfl, rfl, rfl⟩)) hS hlt (by simp) rfl (.inl ⟨rfl, rfl⟩)
    have hd2 : Hid (Step w (w.setCell ⟨g, 4, none⟩ (.int .i64 (max a (-1)))) S S) := Step.of_grown (grownBy_setC w g 4 _) (hS g (.inl rfl))
    rw [hd'] at f3
    clear h hX fz hS hlt
    go_enter Try.func35, Try.ntmps35
    go_wp2
    go_end0
    exact ⟨rfl, hd.out, hd2.out⟩
end Go.Proofs.Ytlpggkdmjmlpkaa
