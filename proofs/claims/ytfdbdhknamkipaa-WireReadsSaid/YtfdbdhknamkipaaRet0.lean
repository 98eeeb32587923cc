import Derived.Test.YtfdbdhknamkipaaCan0
namespace Go.Proofs.Ytfdbdhknamkipaa
open Go.RowKit
/-- what was written is read: a value of the same kind, equal as far as its kind goes, and the place behind it -/
theorem rdV_back {bs ds post : List Nat} {pos : Nat} {x : RV} {most : Int} (hx : VK x) (hm : x.n ≤ most ∧ (x.s.size : Int) ≤ most) (hd : bs.drop pos = ds ++ post) (k1 : 1 ≤ x.kind) (k7 : x.kind ≤ 7) (h : putB x = .inr ds) :
    ∃ u, rdV bs x.kind most pos = .inr (u, pos + ds.length) ∧ u.kind = x.kind ∧ eqv u x = true := by
  have hlen : bs.length - pos = ds.length + post.length := by rw [← List.length_drop, hd, List.length_append]
  unfold rdV
  by_cases c1 : x.kind = 1
  · rw [putB_1 c1] at h
    cases h
    rw [if_pos c1, hd, En.num_enc _ hx.u]
    exact ⟨_, rfl, c1.symm, by rw [eqv_1 rfl]; simp⟩
  rw [if_neg c1]
  by_cases c2 : x.kind = 2
  · rw [putB_2 c2] at h
    cases h
    rw [if_pos c2, hd, En.num_enc _ (zig_lt hx.n1 hx.n2)]
    exact ⟨_, rfl, c2.symm, by rw [eqv_2 (Or.inl rfl)]; simp [unzig_zig]⟩
  rw [if_neg c2]
  by_cases c3 : x.kind = 3
  · rw [putB_3 c3] at h
    cases h
    have hl : pos < bs.length := by simp at hlen; omega
    rw [List.drop_eq_getElem_cons hl] at hd
    simp only [List.cons_append, List.nil_append, List.cons.injEq] at hd
    have hb : boolAt bs pos = some x.b := by
      unfold boolAt
      rw [dif_pos hl, hd.1]
      cases x.b <;> rfl
    rw [if_pos c3, hb]
    exact ⟨_, rfl, c3.symm, by rw [eqv_3 rfl]; simp⟩
  rw [if_neg c3]
  by_cases c4 : x.kind = 4 ∨ x.kind = 5
  · rw [putB_4 c4] at h
    cases h
    have hs := hx.s
    have hl : limit bs pos most = .inr (x.s.size, (En.enc x.s.size).length) := by
      unfold limit
      rw [hd, List.append_assoc, En.num_enc _ (by omega)]
      show (if _ then _ else _) = _
      rw [if_neg (by omega)]
    rw [List.length_append, ofStr_len] at hlen
    have hme : measure bs pos most = .inr (pos + (En.enc x.s.size).length, x.s.size) := by
      unfold measure
      rw [hl]
      show (if _ then _ else _) = _
      rw [if_neg (by omega)]
    rw [if_pos c4, hme]
    refine ⟨⟨x.kind, 0, 0, false, str ((bs.drop (pos + (En.enc x.s.size).length)).take x.s.size), most⟩, by simp only [List.length_append, ofStr_len, ← Nat.add_assoc], rfl, ?_⟩
    rw [eqv_4 (by show x.kind = 4 ∨ x.kind = 5 ∨ x.kind = 6; omega)]
    show decide (str _ = x.s) = true
    rw [← List.drop_drop, hd, List.append_assoc, List.drop_left, ← ofStr_len, List.take_left, str_ofStr]
    exact decide_eq_true rfl
  rw [if_neg c4]
  by_cases c6 : x.kind = 6
  · rw [putB_6 c6] at h
    split at h
    · rename_i s32
      cases h
      have hsm : sumAt bs pos = .inr (pos, 32) := by
        unfold sumAt
        rw [if_neg (by rw [hlen, ofStr_len]; omega)]
      rw [if_pos c6, hsm]
      refine ⟨⟨6, 0, 0, false, str ((bs.drop pos).take 32), most⟩, by simp only [ofStr_len, s32], c6.symm, ?_⟩
      rw [eqv_4 (by show (6 : Int) = 4 ∨ (6 : Int) = 5 ∨ (6 : Int) = 6; decide)]
      show decide (str _ = x.s) = true
      rw [hd, ← s32, ← ofStr_len, List.take_left, str_ofStr]
      exact decide_eq_true rfl
    · cases h
  · rw [if_neg c6]
    have c7 : x.kind = 7 := by omega
    rw [putB_7 c7] at h
    split at h
    · cases h
    · rename_i n0
      cases h
      have hn2 := hx.n2
      have hl : limit bs pos most = .inr (x.n.toNat, (En.enc x.n.toNat).length) := by
        unfold limit
        rw [hd, En.num_enc _ (by omega)]
        show (if _ then _ else _) = _
        rw [if_neg (by omega)]
      rw [hl]
      exact ⟨_, rfl, c7.symm, by rw [eqv_2 (Or.inr rfl)]; simp; omega⟩
theorem putB_no {x : RV} (h : ¬ (1 ≤ x.kind ∧ x.kind ≤ 7)) : putB x = .inr [] := by
  unfold putB
  rw [if_neg (by omega), if_neg (by omega), if_neg (by omega), if_neg (by omega), if_neg (by omega), if_neg (by omega)]
theorem putAll_bytes {V : Nat → RV} {n : Nat} (h : (putAll V n).2 = 0) (k : Nat) (hk : k < n) : ∃ ds post, putB (V k) = .inr ds ∧ (putAll V (k + 1)).1.length = (putAll V k).1.length + ds.length ∧ (putAll V n).1.drop (putAll V k).1.length = ds ++ post := by
  obtain ⟨ds, rest, h1, h2, h3⟩ := putAll_step h hk
  exact ⟨ds, rest, h1, by rw [h2, List.length_append], by rw [h3, h2, List.append_assoc, List.drop_left]⟩
theorem putB_lt {x : RV} {ds : List Nat} (h : putB x = .inr ds) : ∀ y ∈ ds, y < 256 := by
  unfold putB at h
  split at h
  · cases h; exact fun y hy => En.enc_lt hy
  split at h
  · cases h; exact fun y hy => En.enc_lt hy
  split at h
  · cases h; intro y hy; split at hy <;> simp at hy <;> omega
  split at h
  · cases h; intro y hy
    rcases List.mem_append.1 hy with h | h
    · exact En.enc_lt h
    · exact ofStr_lt _ y h
  split at h
  · split at h
    · cases h; exact ofStr_lt _
    · cases h
  split at h
  · split at h
    · cases h
    · cases h; exact fun y hy => En.enc_lt hy
  · cases h; intro y hy; cases hy
theorem putAll_lt (V : Nat → RV) : ∀ k, ∀ y ∈ (putAll V k).1, y < 256
  | 0 => fun y hy => by cases hy
  | k + 1 => fun y hy => by
    have ih := putAll_lt V k
    have hy' : y ∈ (putStep (putAll V k) (V k)).1 := hy
    unfold putStep at hy'
    split at hy'
    · exact ih y hy'
    · split at hy'
      · rename_i ds hd
        rcases List.mem_append.1 hy' with h | h
        · exact ih y h
        · exact putB_lt hd y h
      · exact ih y hy'
end Go.Proofs.Ytfdbdhknamkipaa
