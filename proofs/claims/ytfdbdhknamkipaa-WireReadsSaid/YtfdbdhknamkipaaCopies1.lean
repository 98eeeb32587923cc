import Derived.Test.YtfdbdhknamkipaaWall
namespace Go.Proofs.Ytfdbdhknamkipaa
open Go.RowKit
/-- block g is a row of bytes, the first n of which are there -/
def MB (w : World) (g n : Nat) : Prop := ∃ vs : Array Value, w.heap[g]? = some (.cells vs 5 (0, 0)) ∧ ∀ j, j < n → ∃ x : Nat, x < 256 ∧ vs[j]? = some (.int .u8 x)
theorem MB.set {w : World} {g n k : Nat} {z : Int} (h : MB w g n) (hz : 0 ≤ z ∧ z < 256) : MB (w.setCell ⟨g, k, none⟩ (.int .u8 z)) g n := by
  obtain ⟨vs, h1, h2⟩ := h
  refine ⟨vs.setIfInBounds k (.int .u8 z), heap_setCell_same w g k _ _ _ h1, fun j hj => ?_⟩
  obtain ⟨x, hx, hv⟩ := h2 j hj
  by_cases hkj : k = j
  · subst hkj
    have hs : k < vs.size := (Array.getElem?_eq_some_iff.1 hv).1
    exact ⟨z.toNat, by omega, by rw [Array.getElem?_setIfInBounds, if_pos rfl, if_pos hs, Int.toNat_of_nonneg hz.1]⟩
  · exact ⟨x, hx, by rw [Array.getElem?_setIfInBounds, if_neg hkj]; exact hv⟩
theorem MB.at {w : World} {g n : Nat} (h : MB w g n) (k : Nat) (hk : k < n) : ∃ x : Nat, x < 256 ∧ w.cell? ⟨g, k, none⟩ = some (.int .u8 x) ∧ w.frozen? ⟨g, k, none⟩ = false := by
  obtain ⟨vs, h1, h2⟩ := h
  obtain ⟨x, hx, hv⟩ := h2 k hk
  exact ⟨x, hx, by rw [cell_of_row w g k _ _ _ h1]; exact hv, frozen_of_row w g k _ _ h1⟩
theorem owned_mb {w : World} {base n : Nat} {v : Value} {cs : List Nat} (h : w.ownsRow base 5 1 v n (vals cs)) (hn : n = cs.length) (hlt : ∀ x ∈ cs, x < 256) (hb : base < w.heap.size ∨ 0 < n) :
    ∃ g a cap, v = .slice a n cap ∧ base ≤ g ∧ g < w.heap.size ∧ (0 < n → a = some ⟨g, 0, none⟩ ∧ MB w g n) ∧ (a = none → cap = 0 ∧ cs = []) ∧ (∀ x, a = some x → x.block = g) := by
  subst hn
  rcases h.2 with ⟨rfl, h0⟩ | ⟨g, cap, cur, rfl, hg0, hg, h1, h2, h3, ht⟩
  · exact ⟨base, none, 0, by rw [h0], Nat.le_refl _, by omega, fun h => by omega, fun _ => ⟨rfl, List.eq_nil_of_length_eq_zero h0⟩, fun x hx => by cases hx⟩
  · refine ⟨g, _, cap, rfl, hg0, (Array.getElem?_eq_some_iff.1 hg).1, fun _ => ⟨rfl, cur, hg, fun j hj => ?_⟩, (fun e => by cases e), (fun x hx => by cases hx; rfl)⟩
    refine ⟨cs.getD j 0, hlt _ ?_, ?_⟩
    · rw [show cs.getD j 0 = cs[j] by simp [List.getD, hj]]; exact List.getElem_mem _
    · have h1 : (vals cs)[j]? = some (.int .u8 (cs.getD j 0 : Nat)) := by simp [vals, List.getD, hj]
      rw [← ht, List.getElem?_take] at h1
      split at h1
      · simpa using h1
      · cases h1
theorem WR.below {w w' : World} {B : Nat} {bs : List Nat} {err : Nat} (h : WR w B bs err) (hb : Below w.heap.size w w') : WR w' B bs err := by
  have hlt := h.lt
  obtain ⟨a, cap, h1, h2⟩ := h
  exact ⟨a, cap, (hb.block B hlt).trans h1, h2.kept (g_below (r := none) hb) (by cases (Value.slice a bs.length cap).ownBlock with | none => exact .inl rfl | some q => exact .inr (by simp))⟩
theorem WR.low {w w' : World} {B g : Nat} {bs : List Nat} {err : Nat} (h : WR w B bs err) (hg : w.grownBy w' (some g)) (hgB : g < B) : WR w' B bs err := by
  have hlt := h.lt
  obtain ⟨a, cap, h1, h2⟩ := h
  exact ⟨a, cap, (hg.block B hlt (by simp; omega)).trans h1, h2.kept hg (owns_ne h2 (by omega))⟩
theorem RD.low {w w' : World} {R g : Nat} {a : Option Addr} {cap : Nat} {bs : List Nat} {pos last err : Nat} (h : RD w R a cap bs pos last err) (hg : w.grownBy w' (some g)) (hR : R ≠ g) (ha : ∀ x, a = some x → x.block ≠ g) : RD w' R a cap bs pos last err :=
  ⟨(hg.block R h.lt (by simpa using hR)).trans h.row, h.bytes.g hg ha, h.ne, h.le, h.lastle, h.capge, h.capm⟩
theorem num_small (n : Nat) (l : List Nat) (h : n < 128) : En.num (n :: l) = some (n, 1) := by
  unfold En.num En.numF
  rw [if_neg (by rw [Nat.mod_eq_of_lt h]; simp; omega), if_pos h, if_neg (by simp), Nat.mod_eq_of_lt h]
  simp
theorem enc_small (n : Nat) (h : n < 128) : En.enc n = [n] := En.encF_last 9 n h
theorem measure_small (ds : List Nat) (h : ds.length ≤ 100) : measure ([] ++ En.enc ds.length ++ ds) 0 100 = .inr (1, ds.length) := by
  unfold measure limit
  rw [enc_small _ (by omega), List.nil_append, List.drop_zero, List.singleton_append, num_small _ _ (by omega)]
  simp only
  rw [if_neg (by omega)]
  simp
theorem take_small (ds : List Nat) (h : ds.length ≤ 100) : (([] ++ En.enc ds.length ++ ds).drop 1).take ds.length = ds := by
  rw [enc_small _ (by omega)]; simp
theorem wrapped_lt {ds : List Nat} (hlt : ∀ x ∈ ds, x < 256) : ∀ x ∈ [] ++ En.enc ds.length ++ ds, x < 256 := by
  intro x hx
  simp only [List.nil_append, List.mem_append] at hx
  rcases hx with h | h
  · exact En.enc_lt h
  · exact hlt x h
end Go.Proofs.Ytfdbdhknamkipaa
