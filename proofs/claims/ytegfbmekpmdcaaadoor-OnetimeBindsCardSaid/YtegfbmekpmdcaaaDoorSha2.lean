import Derived.Test.YtegfbmekpmdcaaaDoorSha
namespace Go.Proofs.YtegfbmekpmdcaaaDoor.Sh
/-- the buffer after bytes have been laid in -/
def into (bf : List Nat) (r : Nat) (ds : List Nat) : List Nat := bf.take r ++ (ds ++ bf.drop (r + ds.length))
theorem into_len {bf : List Nat} {r : Nat} {ds : List Nat} (h : r + ds.length ≤ bf.length) : (into bf r ds).length = bf.length := by simp [into]; omega
theorem into_lt {bf : List Nat} {r : Nat} {ds : List Nat} (h : ∀ x ∈ bf, x < 256) (k : ∀ x ∈ ds, x < 256) : ∀ x ∈ into bf r ds, x < 256 := by
  intro x hx
  simp only [into, List.mem_append] at hx
  rcases hx with hx | hx | hx
  · exact h x (List.mem_of_mem_take hx)
  · exact k x hx
  · exact h x (List.mem_of_mem_drop hx)
/-- the buffer holds what comes behind the last whole block -/
def Held (bf ys : List Nat) : Prop := bf.length = 64 ∧ (∀ x ∈ bf, x < 256) ∧ bf.take (ys.length % 64) = ys.drop (64 * (ys.length / 64))
theorem drop_app {ys ds : List Nat} {n : Nat} (h : n ≤ ys.length) : (ys ++ ds).drop n = ys.drop n ++ ds := by
  rw [List.drop_append, show n - ys.length = 0 by omega]; rfl
theorem absorb_lt {ys ds bf : List Nat} (h : Held bf ys) (hd : ∀ x ∈ ds, x < 256) (hk : ys.length % 64 + ds.length < 64) :
    Held (into bf (ys.length % 64) ds) (ys ++ ds) ∧ hs (ys ++ ds) ((ys ++ ds).length / 64) = hs ys (ys.length / 64) := by
  obtain ⟨h1, h2, h3⟩ := h
  have e1 : (ys ++ ds).length / 64 = ys.length / 64 := by rw [List.length_append]; omega
  have e2 : (ys ++ ds).length % 64 = ys.length % 64 + ds.length := by rw [List.length_append]; omega
  refine ⟨⟨by rw [into_len (by omega)]; exact h1, into_lt h2 hd, ?_⟩, ?_⟩
  · rw [e1, e2, drop_app (by omega), ← h3]
    unfold into
    have hl : (bf.take (ys.length % 64)).length = ys.length % 64 := by rw [List.length_take]; omega
    rw [← List.append_assoc, List.take_append_of_le_length (by rw [List.length_append, hl]; omega), List.take_of_length_le (by rw [List.length_append, hl]; omega)]
  · rw [e1, hs_append _ _ _ (by omega)]
theorem getD_app {a b : List Nat} {i : Nat} (h : a.length ≤ i) : (a ++ b).getD i 0 = b.getD (i - a.length) 0 := by
  simp [List.getD, List.getElem?_append_right h]
theorem getD_drop (l : List Nat) (n i : Nat) : (l.drop n).getD i 0 = l.getD (n + i) 0 := by simp [List.getD, List.getElem?_drop]
theorem absorb_eq {ys ds bf : List Nat} (h : Held bf ys) (hd : ∀ x ∈ ds, x < 256) (hk : ys.length % 64 + ds.length = 64) :
    Held (into bf (ys.length % 64) ds) (ys ++ ds) ∧ block (hs ys (ys.length / 64)) (fun i => (into bf (ys.length % 64) ds).getD i 0) = hs (ys ++ ds) ((ys ++ ds).length / 64) := by
  obtain ⟨h1, h2, h3⟩ := h
  have e1 : (ys ++ ds).length / 64 = ys.length / 64 + 1 := by rw [List.length_append]; omega
  have e2 : (ys ++ ds).length % 64 = 0 := by rw [List.length_append]; omega
  have e3 : into bf (ys.length % 64) ds = (ys ++ ds).drop (64 * (ys.length / 64)) := by
    unfold into
    rw [drop_app (by omega), h3, List.drop_of_length_le (l := bf) (by omega), List.append_nil]
  refine ⟨⟨by rw [into_len (by omega)]; exact h1, into_lt h2 hd, ?_⟩, ?_⟩
  · rw [e1, e2, List.take_zero, List.drop_of_length_le]
    rw [List.length_append]; omega
  · rw [e1]
    show _ = block _ _
    rw [hs_append _ _ _ (by omega), e3]
    exact block_congr (fun i _ => getD_drop _ _ _) _
theorem held_nil (bf : List Nat) (h : bf.length = 64) (h2 : ∀ x ∈ bf, x < 256) : Held bf [] := ⟨h, h2, by simp⟩
theorem hs_zero : hs [] (([] : List Nat).length / 64) = H0 := rfl
end Go.Proofs.YtegfbmekpmdcaaaDoor.Sh
