import Derived.Test.YtlpggkdmjmlpkaaBy
namespace Go.Proofs.Ytlpggkdmjmlpkaa
/-- a disk: its durable sectors, and its pending writes (np of them: sector and bytes) -/
structure Dsk where
  size : Nat
  n : Nat
  np : Nat
  dur : Nat → List Nat
  ps : Nat → Nat
  pb : Nat → List Nat
  left : Int
  down : Bool
namespace Dsk
structure WF (D : Dsk) : Prop where
  s1 : 1 ≤ D.size
  s2 : D.size ≤ 4096
  n1 : 1 ≤ D.n
  n2 : D.n ≤ 65536
  dl : ∀ i, i < D.n → (D.dur i).length = D.size
  db : ∀ i, i < D.n → ∀ x ∈ D.dur i, x < 256
  pl : ∀ j, j < D.np → (D.pb j).length = D.size
  pbb : ∀ j, j < D.np → ∀ x ∈ D.pb j, x < 256
  pn : ∀ j, j < D.np → D.ps j < D.n
  l1 : -1 ≤ D.left
  l2 : D.left < 9223372036854775808
def fresh (n size : Nat) : Dsk := ⟨size, n, 0, fun _ => List.replicate size 0, fun _ => 0, fun _ => [], -1, false⟩
def oper (D : Dsk) : Nat × Dsk := if D.left = -1 then (0, D) else if 0 < D.left then (0, { D with left := D.left - 1 }) else (8, { D with down := true })
def push (D : Dsk) (s : Nat) (b : List Nat) : Dsk := { D with np := D.np + 1, ps := fun j => if j = D.np then s else D.ps j, pb := fun j => if j = D.np then b else D.pb j }
def write (D : Dsk) (s : Int) (b : List Nat) : Nat × Dsk := if D.down = true then (8, D) else if (0 ≤ s ∧ s < D.n) ∧ b.length = D.size then (D.push s.toNat b).oper else (1, D)
/-- the contents of a sector behind the first k pending writes -/
def curN (D : Dsk) (s : Nat) : Nat → List Nat
  | 0 => D.dur s
  | k + 1 => if D.ps k = s then D.pb k else D.curN s k
def cur (D : Dsk) (s : Nat) : List Nat := D.curN s D.np
def read (D : Dsk) (s : Int) : Nat × List Nat := if D.down = true then (8, []) else if 0 ≤ s ∧ s < D.n then (0, D.cur s.toNat) else (1, [])
def put (D : Dsk) (s : Nat) (b : List Nat) (k : Nat) : Dsk := { D with dur := fun i => if i = s then b.take k ++ (D.dur s).drop k else D.dur i }
/-- how many bytes of the first torn write are written, and the disk, behind the first k pending writes of a crash -/
def crN (keep : Nat → Bool) (t : Nat) (D : Dsk) : Nat → Nat × Dsk
  | 0 => (t, D)
  | k + 1 => if keep k = true then ((crN keep t D k).1, (crN keep t D k).2.put (D.ps k) (D.pb k) D.size) else (0, (crN keep t D k).2.put (D.ps k) (D.pb k) (crN keep t D k).1)
def clear (D : Dsk) : Dsk := { D with np := 0 }
def sync (D : Dsk) : Nat × Dsk := if D.down = true then (8, D) else if D.oper.1 = 0 then (0, (crN (fun _ => true) 0 D.oper.2 D.np).2.clear) else D.oper
def crash (D : Dsk) (keep : Nat → Bool) (torn : Int) : Dsk := { (crN keep (min (max torn 0) (D.size : Int)).toNat D D.np).2 with np := 0, left := -1, down := false }
def fail (D : Dsk) (a : Int) : Dsk := { D with left := max a (-1) }
def spoil (D : Dsk) (s o : Int) (x : Nat) : Nat × Dsk := if (0 ≤ s ∧ s < D.n) ∧ 0 ≤ o ∧ o < D.size then (0, { D with dur := fun i => if i = s.toNat then (D.dur i).set o.toNat ((D.dur i).getD o.toNat 0 ^^^ x) else D.dur i }) else (1, D)
theorem fresh_wf {n size : Nat} (h1 : 1 ≤ n) (h2 : n ≤ 65536) (h3 : 1 ≤ size) (h4 : size ≤ 4096) : (fresh n size).WF := by
  refine ⟨h3, h4, h1, h2, fun i _ => List.length_replicate, fun i _ x hx => ?_, fun _ h => absurd h (Nat.not_lt_zero _), fun _ h => absurd h (Nat.not_lt_zero _), fun _ h => absurd h (Nat.not_lt_zero _), (by decide : (-1 : Int) ≤ -1), (by decide : (-1 : Int) < 9223372036854775808)⟩
  rw [List.eq_of_mem_replicate hx]; decide
theorem oper_cases (D : Dsk) (h : D.WF) : (D.left = -1 ∧ D.oper = (0, D)) ∨ (0 < D.left ∧ D.oper = (0, { D with left := D.left - 1 })) ∨ (D.left = 0 ∧ D.oper = (8, { D with down := true })) := by
  have h1 := h.l1
  unfold oper
  by_cases a : D.left = -1
  · exact .inl ⟨a, if_pos a⟩
  · by_cases b : 0 < D.left
    · exact .inr (.inl ⟨b, by rw [if_neg a, if_pos b]⟩)
    · exact .inr (.inr ⟨by omega, by rw [if_neg a, if_neg b]⟩)
theorem WF.setLeft {D : Dsk} (h : D.WF) {l : Int} (h1 : -1 ≤ l) (h2 : l < 9223372036854775808) : ({ D with left := l } : Dsk).WF := ⟨h.s1, h.s2, h.n1, h.n2, h.dl, h.db, h.pl, h.pbb, h.pn, h1, h2⟩
theorem WF.setDown {D : Dsk} (h : D.WF) (b : Bool) : ({ D with down := b } : Dsk).WF := ⟨h.s1, h.s2, h.n1, h.n2, h.dl, h.db, h.pl, h.pbb, h.pn, h.l1, h.l2⟩
theorem WF.clear {D : Dsk} (h : D.WF) : D.clear.WF := ⟨h.s1, h.s2, h.n1, h.n2, h.dl, h.db, fun _ h => absurd h (Nat.not_lt_zero _), fun _ h => absurd h (Nat.not_lt_zero _), fun _ h => absurd h (Nat.not_lt_zero _), h.l1, h.l2⟩
theorem WF.oper {D : Dsk} (h : D.WF) : D.oper.2.WF := by
  have h2 := h.l2
  rcases oper_cases D h with ⟨_, e⟩ | ⟨a, e⟩ | ⟨_, e⟩ <;> rw [e]
  · exact h
  · exact h.setLeft (by omega) (by omega)
  · exact h.setDown _
theorem WF.push {D : Dsk} (h : D.WF) {s : Nat} {b : List Nat} (hs : s < D.n) (hb : b.length = D.size) (hl : ∀ x ∈ b, x < 256) : (D.push s b).WF := by
  have lt : ∀ j, j < D.np + 1 → j ≠ D.np → j < D.np := fun j h1 h2 => by omega
  refine ⟨h.s1, h.s2, h.n1, h.n2, h.dl, h.db, fun j hj => ?_, fun j hj => ?_, fun j hj => ?_, h.l1, h.l2⟩
  · by_cases e : j = D.np
    · simp only [Dsk.push, if_pos e]; exact hb
    · simp only [Dsk.push, if_neg e]; exact h.pl j (lt j hj e)
  · by_cases e : j = D.np
    · simp only [Dsk.push, if_pos e]; exact hl
    · simp only [Dsk.push, if_neg e]; exact h.pbb j (lt j hj e)
  · by_cases e : j = D.np
    · simp only [Dsk.push, if_pos e]; exact hs
    · simp only [Dsk.push, if_neg e]; exact h.pn j (lt j hj e)
theorem WF.put {D : Dsk} (h : D.WF) {s k : Nat} {b : List Nat} (hs : s < D.n) (hb : b.length = D.size) (hl : ∀ x ∈ b, x < 256) (hk : k ≤ D.size) : (D.put s b k).WF := by
  refine ⟨h.s1, h.s2, h.n1, h.n2, fun i hi => ?_, fun i hi => ?_, h.pl, h.pbb, h.pn, h.l1, h.l2⟩
  · by_cases e : i = s
    · simp only [Dsk.put, if_pos e, List.length_append, List.length_take, List.length_drop, hb, h.dl s hs]; omega
    · simp only [Dsk.put, if_neg e]; exact h.dl i hi
  · by_cases e : i = s
    · simp only [Dsk.put, if_pos e, List.mem_append]
      rintro x (hx | hx)
      · exact hl x (List.mem_of_mem_take hx)
      · exact h.db s hs x (List.mem_of_mem_drop hx)
    · simp only [Dsk.put, if_neg e]; exact h.db i hi
theorem crN_same (keep : Nat → Bool) (t : Nat) (D : Dsk) : ∀ k, (crN keep t D k).2.size = D.size ∧ (crN keep t D k).2.n = D.n ∧ (crN keep t D k).2.np = D.np ∧ (crN keep t D k).2.ps = D.ps ∧ (crN keep t D k).2.pb = D.pb ∧ (crN keep t D k).2.left = D.left ∧ (crN keep t D k).2.down = D.down
  | 0 => ⟨rfl, rfl, rfl, rfl, rfl, rfl, rfl⟩
  | k + 1 => by
    have ih := crN_same keep t D k
    unfold crN
    split <;> exact ih
theorem crN_wf (keep : Nat → Bool) {t : Nat} {D : Dsk} (h : D.WF) (ht : t ≤ D.size) : ∀ k, k ≤ D.np → (crN keep t D k).2.WF ∧ (crN keep t D k).1 ≤ D.size
  | 0, _ => ⟨h, ht⟩
  | k + 1, hk => by
    obtain ⟨ih, ih2⟩ := crN_wf keep h ht k (by omega)
    obtain ⟨e1, e2, _⟩ := crN_same keep t D k
    have hp : ∀ m, m ≤ D.size → ((crN keep t D k).2.put (D.ps k) (D.pb k) m).WF := fun m hm =>
      ih.put (by rw [e2]; exact h.pn k (by omega)) (by rw [e1]; exact h.pl k (by omega)) (h.pbb k (by omega)) (by rw [e1]; exact hm)
    unfold crN
    split
    · exact ⟨hp _ (Nat.le_refl _), ih2⟩
    · exact ⟨hp _ ih2, Nat.zero_le _⟩
theorem WF.crash {D : Dsk} (h : D.WF) (keep : Nat → Bool) (torn : Int) : (D.crash keep torn).WF := by
  obtain ⟨a, _⟩ := crN_wf keep h (t := (min (max torn 0) (D.size : Int)).toNat) (by omega) D.np (Nat.le_refl _)
  have := ((a.clear).setLeft (l := -1) (by decide) (by decide)).setDown false
  exact this
theorem WF.sync {D : Dsk} (h : D.WF) : D.sync.2.WF := by
  unfold Dsk.sync
  split
  · exact h
  · split
    · have e : D.oper.2.np = D.np := by rcases oper_cases D h with ⟨_, e⟩ | ⟨_, e⟩ | ⟨_, e⟩ <;> rw [e]
      exact (crN_wf _ h.oper (Nat.zero_le _) D.np (by rw [e]; exact Nat.le_refl _)).1.clear
    · exact h.oper
theorem WF.write {D : Dsk} (h : D.WF) (s : Int) {b : List Nat} (hl : ∀ x ∈ b, x < 256) : (D.write s b).2.WF := by
  unfold Dsk.write
  split
  · exact h
  · split
    · rename_i c; exact (h.push (by have := c.1; omega) c.2 hl).oper
    · exact h
theorem WF.fail {D : Dsk} (h : D.WF) {a : Int} (ha : a < 9223372036854775808) : (D.fail a).WF := h.setLeft (l := max a (-1)) (by omega) (by omega)
theorem WF.spoil {D : Dsk} (h : D.WF) (s o : Int) {x : Nat} (hx : x < 256) : (D.spoil s o x).2.WF := by
  unfold Dsk.spoil
  split
  · refine ⟨h.s1, h.s2, h.n1, h.n2, fun i hi => ?_, fun i hi => ?_, h.pl, h.pbb, h.pn, h.l1, h.l2⟩
    · by_cases e : i = s.toNat
      · simp only [if_pos e, List.length_set]; exact h.dl i hi
      · simp only [if_neg e]; exact h.dl i hi
    · by_cases e : i = s.toNat
      · simp only [if_pos e]
        intro y hy
        rcases List.mem_or_eq_of_mem_set hy with hy | rfl
        · exact h.db i hi y hy
        · have hg : (D.dur i).getD o.toNat 0 < 256 := by
            rw [List.getD_eq_getElem?_getD]
            cases hc : (D.dur i)[o.toNat]? with
            | none => simp
            | some z => exact h.db i hi z (List.mem_of_getElem? hc)
          exact Nat.xor_lt_two_pow (n := 8) hg hx
      · simp only [if_neg e]; exact h.db i hi
  · exact h
end Dsk
end Go.Proofs.Ytlpggkdmjmlpkaa
