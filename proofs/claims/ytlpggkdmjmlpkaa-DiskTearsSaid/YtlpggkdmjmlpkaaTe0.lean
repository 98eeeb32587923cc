import Derived.Test.YtlpggkdmjmlpkaaDq5
import Derived.Test.YtlpggkdmjmlpkaaFrameR
namespace Go.Proofs.Ytlpggkdmjmlpkaa
open Go.RowKit
theorem DK.wf3 {w : World} {S : Nat → Prop} {g : Nat} {D : Dsk} (h : DK w S g D) : D.WF := by
  obtain ⟨⟨_, _, _, _, hX, _⟩, _⟩ := h
  exact hX.wf
namespace Dsk
/-- m writes to different sectors are pending, nothing else has happened since a crash -/
structure TS (B E : Dsk) (m : Nat) (ord : Nat → Nat) (dat : Nat → List Nat) : Prop where
  np : E.np = m
  down : E.down = false
  left : E.left = -1
  n : E.n = B.n
  size : E.size = B.size
  dur : E.dur = B.dur
  ps : ∀ j, j < m → E.ps j = ord j
  pb : ∀ j, j < m → E.pb j = dat j
  dis : ∀ i j, i < j → j < m → ord i ≠ ord j
theorem TS.write {B E : Dsk} {m : Nat} {ord : Nat → Nat} {dat : Nat → List Nat} (h : TS B E m ord dat) (hs : ord m < B.n) (hl : (dat m).length = B.size) (hd : ∀ j, j < m → ord j ≠ ord m) : (E.write (ord m : Int) (dat m)).1 = 0 ∧ TS B (E.write (ord m : Int) (dat m)).2 (m + 1) ord dat := by
  have e : E.write (ord m : Int) (dat m) = (0, E.push (ord m) (dat m)) := by
    unfold Dsk.write
    rw [if_neg (by rw [h.down]; decide), if_pos ⟨⟨by omega, by rw [h.n]; omega⟩, by rw [h.size]; exact hl⟩]
    unfold Dsk.oper
    rw [if_pos (by show E.left = -1; exact h.left), Int.toNat_natCast]
  rw [e]
  refine ⟨rfl, ⟨by show E.np + 1 = _; rw [h.np], h.down, h.left, h.n, h.size, h.dur, fun j hj => ?_, fun j hj => ?_, fun i j hij hj => ?_⟩⟩
  · show (if j = E.np then ord m else E.ps j) = _
    rw [h.np]
    by_cases e : j = m
    · rw [if_pos e, e]
    · rw [if_neg e]; exact h.ps j (by omega)
  · show (if j = E.np then dat m else E.pb j) = _
    rw [h.np]
    by_cases e : j = m
    · rw [if_pos e, e]
    · rw [if_neg e]; exact h.pb j (by omega)
  · by_cases e : j = m
    · rw [e]; exact hd i (by omega)
    · exact h.dis i j hij (by omega)
/-- what a crash leaves of writes to different sectors -/
theorem crash_tears {E : Dsk} (h : E.WF) (hdis : ∀ i j, i < j → j < E.np → E.ps i ≠ E.ps j) (keep : Nat → Bool) (t : Nat) (ht : t ≤ E.size) : ∀ k, k ≤ E.np → ∃ τ, ((crN keep t E k).1 = t ∧ τ = E.n ∨ (crN keep t E k).1 = 0) ∧ (∀ i, (∀ j, j < k → E.ps j ≠ i) → (crN keep t E k).2.dur i = E.dur i) ∧
    ∀ j, j < k → (crN keep t E k).2.dur (E.ps j) = E.pb j ∨ (crN keep t E k).2.dur (E.ps j) = E.dur (E.ps j) ∨ (E.ps j = τ ∧ (crN keep t E k).2.dur (E.ps j) = (E.pb j).take t ++ (E.dur (E.ps j)).drop t)
  | 0, _ => ⟨E.n, .inl ⟨rfl, rfl⟩, fun _ _ => rfl, fun j hj => absurd hj (Nat.not_lt_zero _)⟩
  | k + 1, hk => by
    obtain ⟨τ, h1, h2, h3⟩ := crash_tears h hdis keep t ht k (by omega)
    obtain ⟨e1, e2, _⟩ := crN_same keep t E k
    have hne : ∀ j, j < k → E.ps j ≠ E.ps k := fun j hj => hdis j k hj (by omega)
    have hold : (crN keep t E k).2.dur (E.ps k) = E.dur (E.ps k) := h2 _ hne
    have hlk := h.pl k (by omega)
    have hld := h.dl (E.ps k) (h.pn k (by omega))
    have putd : ∀ m i, ((crN keep t E k).2.put (E.ps k) (E.pb k) m).dur i = if i = E.ps k then (E.pb k).take m ++ (E.dur (E.ps k)).drop m else (crN keep t E k).2.dur i := fun m i => by
      show (if i = E.ps k then (E.pb k).take m ++ ((crN keep t E k).2.dur (E.ps k)).drop m else _) = _
      rw [hold]
    by_cases hkp : keep k = true
    · rw [Dsk.crN, if_pos hkp]
      refine ⟨τ, h1, fun i hi => ?_, fun j hj => ?_⟩
      · show ((crN keep t E k).2.put _ _ _).dur i = _
        rw [putd, if_neg (fun e => hi k (by omega) e.symm)]
        exact h2 i (fun j hj => hi j (by omega))
      · show ((crN keep t E k).2.put _ _ _).dur _ = _ ∨ ((crN keep t E k).2.put _ _ _).dur _ = _ ∨ _ ∧ ((crN keep t E k).2.put _ _ _).dur _ = _
        rw [putd]
        by_cases e : j = k
        · rw [e, if_pos rfl]
          left
          rw [List.take_of_length_le (Nat.le_of_eq hlk), List.drop_eq_nil_of_le (Nat.le_of_eq hld), List.append_nil]
        · rw [if_neg (hne j (by omega))]
          exact h3 j (by omega)
    · rw [Dsk.crN, if_neg hkp]
      have zero : (E.pb k).take 0 ++ (E.dur (E.ps k)).drop 0 = E.dur (E.ps k) := rfl
      rcases h1 with ⟨a, b⟩ | a
      · refine ⟨E.ps k, .inr rfl, fun i hi => ?_, fun j hj => ?_⟩
        · show ((crN keep t E k).2.put _ _ _).dur i = _
          rw [putd, if_neg (fun e => hi k (by omega) e.symm)]
          exact h2 i (fun j hj => hi j (by omega))
        · show ((crN keep t E k).2.put _ _ _).dur _ = _ ∨ ((crN keep t E k).2.put _ _ _).dur _ = _ ∨ _ ∧ ((crN keep t E k).2.put _ _ _).dur _ = _
          rw [putd, a]
          by_cases e : j = k
          · rw [e, if_pos rfl]; exact .inr (.inr ⟨rfl, rfl⟩)
          · rw [if_neg (hne j (by omega))]
            rcases h3 j (by omega) with c | c | ⟨c, _⟩
            · exact .inl c
            · exact .inr (.inl c)
            · have := h.pn j (by omega); omega
      · refine ⟨τ, .inr rfl, fun i hi => ?_, fun j hj => ?_⟩
        · show ((crN keep t E k).2.put _ _ _).dur i = _
          rw [putd, if_neg (fun e => hi k (by omega) e.symm)]
          exact h2 i (fun j hj => hi j (by omega))
        · show ((crN keep t E k).2.put _ _ _).dur _ = _ ∨ ((crN keep t E k).2.put _ _ _).dur _ = _ ∨ _ ∧ ((crN keep t E k).2.put _ _ _).dur _ = _
          rw [putd, a]
          by_cases e : j = k
          · rw [e, if_pos rfl, zero]; exact .inr (.inl rfl)
          · rw [if_neg (hne j (by omega))]; exact h3 j (by omega)
/-- the bytes that were written to a sector, if any -/
def wrb (wv : Nat → Option Nat) (dat : Nat → List Nat) (i : Nat) : List Nat := match wv i with
  | none => []
  | some j => dat j
theorem TS.crash {B E : Dsk} {m : Nat} {ord : Nat → Nat} {dat : Nat → List Nat} (h : TS B E m ord dat) (hwf : E.WF) (wv : Nat → Option Nat) (hw1 : ∀ i j, wv i = some j → j < m ∧ ord j = i) (hw2 : ∀ j, j < m → wv (ord j) = some j) (keep : Nat → Bool) (torn : Int) : ∃ τ t, t ≤ B.size ∧ ∀ i, i < B.n → (E.crash keep torn).dur i = B.dur i ∨ (E.crash keep torn).dur i = wrb wv dat i ∨
    (i = τ ∧ (wrb wv dat i).length = B.size ∧ (E.crash keep torn).dur i = (wrb wv dat i).take t ++ (B.dur i).drop t) := by
  have ht : (min (max torn 0) (E.size : Int)).toNat ≤ E.size := by omega
  obtain ⟨τ, _, h2, h3⟩ := crash_tears hwf (fun i j hij hj => by rw [h.np] at hj; rw [h.ps i (by omega), h.ps j hj]; exact h.dis i j hij hj) keep _ ht E.np (Nat.le_refl _)
  refine ⟨τ, _, by rw [← h.size]; exact ht, fun i hi => ?_⟩
  show (crN keep _ E E.np).2.dur i = _ ∨ (crN keep _ E E.np).2.dur i = _ ∨ _ ∧ _ ∧ (crN keep _ E E.np).2.dur i = _
  cases hc : wv i with
  | none =>
    left
    rw [h2 i (fun j hj e => ?_), h.dur]
    rw [h.np] at hj
    rw [h.ps j hj] at e
    have := hw2 j hj
    rw [e, hc] at this
    cases this
  | some j =>
    obtain ⟨hj, rfl⟩ := hw1 i j hc
    have hwb : wrb wv dat (ord j) = dat j := by unfold wrb; rw [hc]
    have hjn : j < E.np := by rw [h.np]; exact hj
    have h4 := h3 j hjn
    rw [h.ps j hj, h.pb j hj, h.dur] at h4
    rw [hwb]
    rcases h4 with c | c | ⟨c, d⟩
    · exact .inr (.inl c)
    · exact .inl c
    · refine .inr (.inr ⟨c, ?_, d⟩)
      rw [← h.pb j hj, ← h.size]
      exact hwf.pl j hjn
end Dsk
/-- integers that come in -/
def IntsR (w : World) (a : Option Addr) (len : Nat) (zs : List Int) : Prop := len ≤ zs.length ∧ ∀ i, i < len → ∃ b off, a = some ⟨b, off, none⟩ ∧ w.cell? ⟨b, off + i, none⟩ = some (.int .i64 (zs.getD i 0))
theorem intsI_of {w : World} (a : Option Addr) (len cap : Nat) (zs : List Int) (hl : len ≤ cap) (hz : zs.length = cap) (_ : ∀ n ∈ zs, (Lit.int .i64 n).wf = true) (hnil : a = none → cap = 0)
    (hcell : ∀ x, a = some x → ∀ c, c < cap → w.cell? (x.add c) = some (.int .i64 (zs.getD c 0))) : IntsR w a len zs := by
  refine ⟨by omega, fun i hi => ?_⟩
  cases a with
  | none => exfalso; have := hnil rfl; omega
  | some x =>
    obtain ⟨b, off, rfl, hadd⟩ := plain_addr (j := i) (hcell x rfl 0 (by omega))
    have hc := hcell _ rfl i (by omega)
    exact ⟨b, off, rfl, by rw [hadd] at hc; exact hc⟩
/-- the row of what was written -/
def wrow (wv : Nat → Option Nat) (DA : Nat → Option Addr) (DL DC : Nat → Nat) (n : Nat) : Array Value := ((List.range n).map fun i => match wv i with
  | none => Value.slice none 0 0
  | some j => .slice (DA j) (DL j) (DC j)).toArray
def wval (wv : Nat → Option Nat) (DA : Nat → Option Addr) (DL DC : Nat → Nat) (i : Nat) : Value := match wv i with
  | none => Value.slice none 0 0
  | some j => .slice (DA j) (DL j) (DC j)
theorem wrow_size (wv : Nat → Option Nat) (DA : Nat → Option Addr) (DL DC : Nat → Nat) (n : Nat) : (wrow wv DA DL DC n).size = n := by simp [wrow]
theorem wrow_get (wv : Nat → Option Nat) (DA : Nat → Option Addr) (DL DC : Nat → Nat) (n i : Nat) (h : i < n) : (wrow wv DA DL DC n)[i]? = some (wval wv DA DL DC i) := by simp [wrow, wval, h]
theorem wrow_set (wv : Nat → Option Nat) (DA : Nat → Option Addr) (DL DC : Nat → Nat) (n s j : Nat) : (wrow wv DA DL DC n).setIfInBounds s (.slice (DA j) (DL j) (DC j)) = wrow (fun i => if i = s then some j else wv i) DA DL DC n := by
  apply Array.ext_getElem?
  intro i
  rw [Array.getElem?_setIfInBounds, wrow_size]
  by_cases hi : i < n
  · rw [wrow_get _ _ _ _ _ _ hi, wrow_get _ _ _ _ _ _ hi]
    unfold wval
    by_cases hk : s = i
    · subst hk; rw [if_pos rfl, if_pos hi]; simp
    · have hk' : ¬ i = s := fun e => hk e.symm
      rw [if_neg hk]; simp [hk']
  · rw [Array.getElem?_eq_none (by rw [wrow_size]; omega), Array.getElem?_eq_none (by rw [wrow_size]; omega)]
    by_cases hk : s = i
    · subst hk; rw [if_pos rfl, if_neg hi]
    · rw [if_neg hk]
theorem wrow_nil (DA : Nat → Option Addr) (DL DC : Nat → Nat) (z n : Nat) : hdr (fun _ => none) z n = wrow (fun _ => none) DA DL DC n := by
  apply Array.ext_getElem?
  intro i
  by_cases hi : i < n
  · rw [hdr_get _ _ _ _ hi, wrow_get _ _ _ _ _ _ hi]; rfl
  · rw [Array.getElem?_eq_none (by rw [hdr_size]; omega), Array.getElem?_eq_none (by rw [wrow_size]; omega)]
theorem Rd.cut {w : World} {b o n k : Nat} {bs : List Nat} (h : Rd w (some ⟨b, o, none⟩) n bs) : Rd w (some ⟨b, o + k, none⟩) (n - k) (bs.drop k) := by
  refine ⟨fun i hi => ?_, by rw [List.length_drop, ← h.len], fun x hx => h.lt x (List.mem_of_mem_drop hx)⟩
  rw [List.length_drop] at hi
  obtain ⟨b', o', e1, e2⟩ := h.by_ (k + i) (by omega)
  cases e1
  refine ⟨b, o + k, rfl, ?_⟩
  rw [Nat.add_assoc, e2]
  simp [List.getD]
theorem Rd.byte {w : World} {a : Option Addr} {n k : Nat} {bs : List Nat} (h : Rd w a n bs) (hk : k < n) : ∃ b o, a = some ⟨b, o, none⟩ ∧ w.cell? ⟨b, o + k, none⟩ = some (.int .u8 (bs.getD k 0 : Nat)) := h.by_ k (by rw [← h.len]; exact hk)
theorem drop_same {now wr old : List Nat} {t k z : Nat} (hn : now = wr.take t ++ old.drop t) (hw : wr.length = z) (hto : t ≤ z) (hd : now.getD k 0 ≠ wr.getD k 0) : now.drop k = old.drop k := by
  have htk : t ≤ k := by
    rcases Nat.lt_or_ge k t with h | h
    · exfalso; apply hd
      rw [hn, List.getD_eq_getElem?_getD, List.getElem?_append_left (by rw [List.length_take]; omega), List.getElem?_take, if_pos h, List.getD_eq_getElem?_getD]
    · exact h
  rw [hn, List.drop_append, List.drop_eq_nil_of_le (by rw [List.length_take]; omega), List.nil_append, List.length_take, Nat.min_eq_left (by omega), List.drop_drop]
  congr 1
  omega
theorem same_all {now wr : List Nat} {z : Nat} (h1 : now.length = z) (h2 : wr.length = z) (h : ∀ q, q < z → now.getD q 0 = wr.getD q 0) : now = wr := by
  apply List.ext_getElem?
  intro i
  by_cases hi : i < z
  · have := h i hi
    rw [List.getD_eq_getElem?_getD, List.getD_eq_getElem?_getD, List.getElem?_eq_getElem (by omega), List.getElem?_eq_getElem (by omega)] at this
    rw [List.getElem?_eq_getElem (by omega), List.getElem?_eq_getElem (by omega)]
    exact congrArg some this
  · rw [List.getElem?_eq_none (by omega), List.getElem?_eq_none (by omega)]
/-- between two of the writes -/
structure TI (w wr : World) (g : Nat) (S' : Nat → Prop) (B E : Dsk) (m N Z lo wB R : Nat) (q : Nat → Nat) (wv : Nat → Option Nat) (ord : Nat → Nat) (dat : Nat → List Nat) (DA : Nat → Option Addr) (DL DC : Nat → Nat) : Prop where
  dk : DK wr S' g E
  sl : ∀ b, S' b → w.heap.size ≤ b ∧ (b < lo ∨ wB < b)
  bel : Below w.heap.size w wr
  img : Img wr lo R q N Z B.dur
  lt : R < wB ∧ ∀ i, i < N → q i < wB
  row : Blk wr wB 39 (wrow wv DA DL DC N)
  ts : Dsk.TS B E m ord dat
  w1 : ∀ i j, wv i = some j → j < m ∧ ord j = i
  w2 : ∀ j, j < m → wv (ord j) = some j
  dl : ∀ j, j < m → DL j = Z
  lo : w.heap.size ≤ lo ∧ lo ≤ wB
theorem TI.step {w wr w' : World} {g : Nat} {S' S'' : Nat → Prop} {B E : Dsk} {m N Z lo wB R : Nat} {q : Nat → Nat} {wv : Nat → Option Nat} {ord : Nat → Nat} {dat : Nat → List Nat} {DA : Nat → Option Addr} {DL DC : Nat → Nat} (h : TI w wr g S' B E m N Z lo wB R q wv ord dat DA DL DC) (hst : Step wr w' S' S'') : (∀ b, S'' b → w.heap.size ≤ b ∧ (b < lo ∨ wB < b)) ∧ Below w.heap.size w w' ∧ Img w' lo R q N Z B.dur ∧ Blk w' wB 39 (wrow wv DA DL DC N) := by
  have hwB := h.row.lt
  have hsz := h.bel.size
  refine ⟨fun b hb => ?_, h.bel.trans (hst.below hsz (fun b hb => (h.sl b hb).1)), h.img.step hst (hi := wB) (fun b hb => by have := (h.sl b hb).2; omega) h.lt, (hst.block wB hwB (fun e => by have := (h.sl wB e).2; have := h.lo.2; omega)).trans h.row⟩
  rcases hst.sub b hb with e | ⟨e, _⟩
  · exact h.sl b e
  · exact ⟨by omega, .inr (by omega)⟩
theorem TI.write {w wr w' : World} {g : Nat} {S' S'' : Nat → Prop} {B E E' : Dsk} {m N Z lo wB R : Nat} {q : Nat → Nat} {wv : Nat → Option Nat} {ord : Nat → Nat} {dat : Nat → List Nat} {DA : Nat → Option Addr} {DL DC : Nat → Nat} (h : TI w wr g S' B E m N Z lo wB R q wv ord dat DA DL DC) (hst : Step wr w' S' S'') (hD : DK w' S'' g E') (ht : Dsk.TS B E' (m + 1) ord dat) (hn : wv (ord m) = none) (hl : DL m = Z) :
    w'.frozen? ⟨wB, ord m, none⟩ = false ∧ (ord m < N → w'.cell? ⟨wB, ord m, none⟩ = some (.slice none 0 0)) ∧ TI w (w'.setCell ⟨wB, ord m, none⟩ (.slice (DA m) (DL m) (DC m))) g S'' B E' (m + 1) N Z lo wB R q (fun i => if i = ord m then some m else wv i) ord dat DA DL DC := by
  obtain ⟨a1, a2, a3, a4⟩ := h.step hst
  have hns : ¬ S'' wB := fun e => by have := (a1 wB e).2; have := h.lo.2; omega
  refine ⟨a4.frozen _, fun hN => by rw [a4.cell, wrow_get _ _ _ _ _ _ hN]; unfold wval; rw [hn], ⟨hD.other (grownBy_setC w' wB (ord m) _) hns, a1, a2.setCell (p := ⟨wB, ord m, none⟩) (by have := h.lo; show _ ≤ wB; omega) _, ⟨a3.row.far (show R ≠ wB by have := h.lt.1; omega) _, fun i hi => Blk.far (a3.sec i hi) (show q i ≠ wB by have := h.lt.2 i hi; omega) _, a3.lo⟩, h.lt, by rw [← wrow_set]; exact a4.set_ _ _, ht, fun i j hij => ?_, fun j hj => ?_, fun j hj => ?_, h.lo⟩⟩
  · have hij' : (if i = ord m then some m else wv i) = some j := hij
    by_cases e : i = ord m
    · rw [if_pos e] at hij'; cases hij'; exact ⟨by omega, e.symm⟩
    · rw [if_neg e] at hij'
      obtain ⟨b1, b2⟩ := h.w1 i j hij'
      exact ⟨by omega, b2⟩
  · show (if ord j = ord m then some m else wv (ord j)) = some j
    by_cases e : j = m
    · rw [e, if_pos rfl]
    · rw [if_neg (ht.dis j m (by omega) (by omega))]; exact h.w2 j (by omega)
  · by_cases e : j = m
    · rw [e]; exact hl
    · exact h.dl j (by omega)
end Go.Proofs.Ytlpggkdmjmlpkaa
