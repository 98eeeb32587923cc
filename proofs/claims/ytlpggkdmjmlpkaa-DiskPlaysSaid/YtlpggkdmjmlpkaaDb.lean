import Derived.Test.YtlpggkdmjmlpkaaDa
import Derived.Test.YtlpggkdmjmlpkaaPerm
import Derived.Deep.RegionLaw
import Derived.Lib.LazyBuf
namespace Go.Proofs.Ytlpggkdmjmlpkaa
open Go.RowKit
/-- a region all of whose orders come to one end -/
def ToQ (A : Act) (W : World) : Exit → Act → World → Prop
  | .normal, a, w => a = A ∧ w = W
  | _, _, _ => False
theorem wp_to {P : Program} {c : Code} {Q : Exit → Act → World → Prop} {a : Act} {w : World} (A : Act) (W : World) (h1 : c.wp P (ToQ A W) a w) (h2 : Q .normal A W) : c.wp P Q a w :=
  Code.wp_mono (fun e _ _ h => by
    cases e with
    | normal => obtain ⟨rfl, rfl⟩ := h; exact h2
    | _ => exact h.elim) h1
/-- the disk with the sector s in the block b, in blocks S' -/
structure OwnR (w w' : World) (S S' : Nat → Prop) (g dB : Nat) (A' : Nat → Option Nat) (pv : Value) (P : Nat → Nat) (D : Dsk) (s b : Nat) : Prop where
  at_ : A' s = some b
  dx : DX w' g dB A' pv P D
  fp : ∀ b, FP g dB A' pv P D.n D.np b → S' b
  lt : ∀ b, S' b → b < w'.heap.size
  step : Step w w' S S'
theorem zero_row (size : Nat) : rowA .u8 (fun _ => 0) size 0 = rowA .u8 (fun _ => 0) size size := by
  apply Array.ext_getElem?; intro i
  by_cases hi : i < size
  · rw [rowA_get _ _ _ _ _ hi, rowA_all _ _ _ _ hi, if_neg (Nat.not_lt_zero _)]; rfl
  · rw [Array.getElem?_eq_none (by rw [rowA_size]; omega), Array.getElem?_eq_none (by rw [rowA_size]; omega)]
theorem getD_repl (n i : Nat) : (List.replicate n 0).getD i 0 = 0 := by
  rw [List.getD_eq_getElem?_getD, List.getElem?_replicate]; split <;> rfl
theorem own_new {w w1 : World} {S : Nat → Prop} {g dB : Nat} {A : Nat → Option Nat} {pv : Value} {P : Nat → Nat} {D : Dsk} {s : Nat} (hX : DX w g dB A pv P D) (hS : ∀ b, FP g dB A pv P D.n D.np b → S b) (hlt : ∀ b, S b → b < w.heap.size) (hs : s < D.n) (hA : A s = none)
    (h1 : w1 = (w.alloc (.cells (rowA .u8 (fun _ => 0) D.size 0) 5)).setCell ⟨dB, s, none⟩ (.slice (some ⟨w.heap.size, 0, none⟩) D.size D.size)) :
    OwnR w w1 S (fun b => S b ∨ b = w.heap.size) g dB (fun i => if i = s then some w.heap.size else A i) pv P D s w.heap.size := by
  have hsz : w1.heap.size = w.heap.size + 1 := by rw [h1]; simp
  have hd := hX.row.lt
  have ot : ∀ b, b < w.heap.size → b ≠ dB → w1.heap[b]? = w.heap[b]? := fun b hb hn => by
    rw [h1, Below.heap_setCell _ _ _ _ (by exact hn), Below.heap_alloc _ _ _ hb]
  have old : ∀ i b, i < D.n → A i = some b → b < w.heap.size := fun i b hi h => Blk.lt (hX.sec i b hi h)
  have row1 : Blk w1 dB 39 (hdr (fun i => if i = s then some w.heap.size else A i) D.size D.n) := by
    rw [h1, ← hdr_set]; exact (hX.row.alloc _).set_ _ _
  refine ⟨if_pos rfl, ⟨hX.wf, ?_, row1, fun i hi h => ?_, fun i b hi h => ?_, ?_, fun j hj => ?_, fun i k b hi hk h h' => ?_, fun i j hi hj h => ?_⟩, fun b hb => ?_, fun b hb => ?_, ?_⟩
  · exact (ot g hX.blk.lt (Ne.symm (hX.ne (.inl rfl)))).trans hX.blk
  · replace h : (if i = s then some w.heap.size else A i) = none := h
    by_cases e : i = s
    · rw [if_pos e] at h; cases h
    · rw [if_neg e] at h; exact hX.nil i hi h
  · replace h : (if i = s then some w.heap.size else A i) = some b := h
    by_cases e : i = s
    · rw [if_pos e] at h
      cases h
      subst e
      rw [hX.nil i hi hA]
      refine BB.of (n := D.size) (F := fun _ => 0) ?_ (List.length_replicate) (fun k _ => (getD_repl _ _).symm)
      rw [← zero_row, h1]
      exact (Blk.new w _ _).far (show w.heap.size ≠ dB by omega) _
    · rw [if_neg e] at h
      have hb := hX.sec i b hi h
      exact (ot b hb.lt (blk_ne hb hX.row (by decide))).trans hb
  · exact own_blocks hX.own fun b e => by
      obtain ⟨cs, hc⟩ := own_blk hX.own e
      exact ot b hc.lt (blk_ne hc hX.row (by decide))
  · have hb := hX.pen j hj
    exact (ot (P j) (Blk.lt hb) (blk_ne hb hX.row (by decide))).trans hb
  · replace h : (if i = s then some w.heap.size else A i) = some b := h
    replace h' : (if k = s then some w.heap.size else A k) = some b := h'
    by_cases e : i = s
    · by_cases e' : k = s
      · omega
      · rw [if_pos e] at h; rw [if_neg e'] at h'
        cases h
        have := old k _ hk h'
        omega
    · by_cases e' : k = s
      · rw [if_neg e] at h; rw [if_pos e'] at h'
        cases h'
        have := old i _ hi h
        omega
      · rw [if_neg e] at h; rw [if_neg e'] at h'
        exact hX.inj i k b hi hk h h'
  · replace h : (if i = s then some w.heap.size else A i) = some (P j) := h
    by_cases e : i = s
    · rw [if_pos e] at h
      have := Blk.lt (hX.pen j hj)
      have e2 : w.heap.size = P j := by simpa using h
      omega
    · rw [if_neg e] at h; exact hX.dis i j hi hj h
  · rcases hb with rfl | rfl | ⟨i, hi, h⟩ | h | h
    · exact .inl (hS _ (.inl rfl))
    · exact .inl (hS _ (.inr (.inl rfl)))
    · replace h : (if i = s then some w.heap.size else A i) = some b := h
      by_cases e : i = s
      · rw [if_pos e] at h; cases h; exact .inr rfl
      · rw [if_neg e] at h; exact .inl (hS _ (.inr (.inr (.inl ⟨i, hi, h⟩))))
    · exact .inl (hS _ (.inr (.inr (.inr (.inl h)))))
    · exact .inl (hS _ (.inr (.inr (.inr (.inr h)))))
  · rcases hb with h | rfl
    · have := hlt b h; omega
    · omega
  · refine ⟨by rw [h1]; rfl, by rw [h1]; rfl, by rw [h1]; rfl, by omega, fun i hi hn => ot i hi (fun e => hn (by rw [e]; exact hS _ (.inr (.inl rfl)))), fun b hb => ?_⟩
    rcases hb with h | rfl
    · exact .inl h
    · exact .inr ⟨Nat.le_refl _, by omega⟩
set_option maxRecDepth 100000 in
set_option maxHeartbeats 1000000 in
theorem own_any (g dB : Nat) (S : Nat → Prop) (A : Nat → Option Nat) (pv : Value) (P : Nat → Nat) (D : Dsk) (s : Nat) (w : World) (hX : Hid (DX w g dB A pv P D)) (hS : Hid (∀ b, FP g dB A pv P D.n D.np b → S b)) (hlt : Hid (∀ b, S b → b < w.heap.size)) (hs : s < D.n) :
    Calls Try.prog 42 #[.pointer (some ⟨g, 0, none⟩), .int .i64 (s : Int)] w fun e w' => ∃ b A' S', e = .returned (.slice (some ⟨b, 0, none⟩) D.size D.size) ∧ OwnR w w' S S' g dB A' pv P D s b := by
  obtain ⟨f0, f1, f2, f3, f4, fz⟩ := hX.out.fields
  have hrow := hX.out.row
  have c1 := hrow.cell s
  rw [hdr_get _ _ _ _ hs] at c1
  have l2 := hX.out.wf.n2
  have l4 := hX.out.wf.s2
  cases hA : A s with
  | some b =>
    rw [hA] at c1
    have c2 : w.cell? ⟨dB, s, none⟩ = some (.slice (some ⟨b, 0, none⟩) D.size D.size) := c1
    have hfin : Hid (OwnR w w S S g dB A pv P D s b) := ⟨hA, hX.out, hS.out, hlt.out, Step.refl _ _⟩
    obtain ⟨n, hn⟩ : ∃ n, Hid (D.n = n) := ⟨_, rfl⟩
    obtain ⟨z, hz⟩ : ∃ z, Hid (D.size = z) := ⟨_, rfl⟩
    rw [hn.out] at f1 hs l2
    rw [hz.out] at c2 f0 l4 ⊢
    have t1 : (s : Int) < (n : Int) := by omega
    have q1 := fun W (a : Option Addr) => run_eql_slice_nil (P := Try.prog) W 39 5 a z z Try.underlying39
    have q2 := fun W => run_eql_slice_nil (P := Try.prog) W 39 5 none 0 0 Try.underlying39
    simp only [Option.isNone_none] at q2
    clear hX hS hlt hrow c1 hA fz
    go_enter Try.func42, Try.ntmps42
    go_wp2
    go_ret
    exact ⟨b, A, S, rfl, hfin.out⟩
  | none =>
    rw [hA] at c1
    have c2 : w.cell? ⟨dB, s, none⟩ = some (.slice none 0 0) := c1
    have hN : Hid (∀ w1, w1 = (w.alloc (.cells (rowA .u8 (fun _ => 0) D.size 0) 5)).setCell ⟨dB, s, none⟩ (.slice (some ⟨w.heap.size, 0, none⟩) D.size D.size) → OwnR w w1 S (fun b => S b ∨ b = w.heap.size) g dB (fun i => if i = s then some w.heap.size else A i) pv P D s w.heap.size) := fun w1 h1 => own_new hX.out hS.out hlt.out hs hA h1
    have fzd := hrow.frozen s
    have hmk := makeLen D.size (by omega) w
    have hmk2 := makeLen D.size (by omega) w.drew
    obtain ⟨n, hn⟩ : ∃ n, Hid (D.n = n) := ⟨_, rfl⟩
    obtain ⟨z, hz⟩ : ∃ z, Hid (D.size = z) := ⟨_, rfl⟩
    rw [hn.out] at f1 hs l2
    rw [hz.out] at f0 l4 hN hmk hmk2 ⊢
    have t1 : (s : Int) < (n : Int) := by omega
    have q1 := fun W (a : Option Addr) => run_eql_slice_nil (P := Try.prog) W 39 5 a z z Try.underlying39
    have q2 := fun W => run_eql_slice_nil (P := Try.prog) W 39 5 none 0 0 Try.underlying39
    simp only [Option.isNone_none] at q2
    clear hX hS hlt hrow c1 hA fz
    go_enter Try.func42, Try.ntmps42
    go_wp2
    have bA : Below w.heap.size w (w.alloc (.cells (rowA .u8 (fun _ => 0) z 0) 5)) := (Below.refl _ _).alloc (Nat.le_refl _) _
    have f1' := (bA.cell (p := ⟨g, 1, none⟩) (bytes_lt f1)).trans f1
    have f0' := (bA.cell (p := ⟨g, 0, none⟩) (bytes_lt f0)).trans f0
    have c2' := (bA.cell (p := ⟨dB, s, none⟩) (bytes_lt c2)).trans c2
    have fzd' := (bA.frozen (p := ⟨dB, s, none⟩) (bytes_lt c2)).trans fzd
    apply wp_to
    case h1 =>
      go_region
      all_goals exact ⟨rfl, rfl⟩
    obtain ⟨w1, hw1, hO⟩ : ∃ w1, Hid (((w.alloc (.cells (rowA .u8 (fun _ => 0) z 0) 5)).setCell ⟨dB, s, none⟩ (.slice (some ⟨w.heap.size, 0, none⟩) z z)).drew = w1) ∧ OwnR w w1 S (fun b => S b ∨ b = w.heap.size) g dB (fun i => if i = s then some w.heap.size else A i) pv P D s w.heap.size := ⟨_, rfl, by
      have h := hN.out _ rfl
      exact ⟨h.at_, h.dx.below (Below.drew (Below.refl _ _)), h.fp, h.lt, h.step.then (Below.drew (Below.refl _ _))⟩⟩
    rw [hw1.out]
    have g1 := hO.dx.fields.dur
    have g2 := hO.dx.row.cell s
    rw [hdr_get _ _ _ _ (by rw [hn.out]; exact hs), if_pos rfl] at g2
    rw [hn.out] at g1
    rw [hz.out] at g2
    have g3 : w1.cell? ⟨dB, s, none⟩ = some (.slice (some ⟨w.heap.size, 0, none⟩) z z) := g2
    have hO' := hidIt hO
    clear hO g2 hN f0 f1 f2 f3 f4 c2 fzd f1' f0' c2' fzd' hmk hmk2 hw1 q1 q2
    go_wp2
    go_ret
    exact ⟨_, _, _, rfl, hO'.out⟩
end Go.Proofs.Ytlpggkdmjmlpkaa
