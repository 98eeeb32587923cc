import Derived.Test.YtfdbdhknamkipaaDist
namespace Go.Proofs.Ytfdbdhknamkipaa
open Go.RowKit
theorem ofStr_str' (ds : List Nat) (h : ∀ x ∈ ds, x < 256) : ofStr (str ds) = ds := by
  unfold ofStr str
  rw [List.map_map]
  apply List.ext_getElem?
  intro i
  rw [List.getElem?_map]
  cases hi : ds[i]? with
  | none => rfl
  | some x =>
    have hx : x < 256 := h x (List.mem_of_getElem? hi)
    show some ((UInt8.toNat ∘ UInt8.ofNat) x) = some x
    simp only [Function.comp, UInt8.toNat_ofNat']
    congr 1
    omega
theorem str_sz (ds : List Nat) : (str ds).size = ds.length := by
  have : (str ds).size = (str ds).data.size := rfl
  rw [this]; unfold str; simp
theorem take_mem {bs : List Nat} (h : ∀ x ∈ bs, x < 256) (i n : Nat) : ∀ x ∈ (bs.drop i).take n, x < 256 := fun x hx => h x (List.mem_of_mem_drop (List.mem_of_mem_take hx))
theorem drop_mem {bs : List Nat} (h : ∀ x ∈ bs, x < 256) (i : Nat) : ∀ x ∈ bs.drop i, x < 256 := fun x hx => h x (List.mem_of_mem_drop hx)
/-- what a read that succeeds gives: it is written as the bytes that were read -/
structure RdOk (bs : List Nat) (kind : Int) (pos : Nat) (v : RV) (p : Nat) : Prop where
  lo : pos ≤ p
  hi : p ≤ bs.length
  put : putB v = .inr ((bs.drop pos).take (p - pos))
  ok : v.ok
  sz : v.s.size ≤ bs.length
  kd : v.kind = kind
theorem empty_sz : ByteArray.empty.size = 0 := rfl
theorem rdV_ok {bs : List Nat} {kind most : Int} {pos p : Nat} {v : RV} (hb : ∀ x ∈ bs, x < 256) (hpos : pos ≤ bs.length) (hsz : bs.length ≤ 1000) (hm : most ≤ 9223372036854775807) (k1 : 1 ≤ kind) (k7 : kind ≤ 7) (h : rdV bs kind most pos = .inr (v, p)) : RdOk bs kind pos v p := by
  unfold rdV at h
  by_cases c1 : kind = 1
  · rw [if_pos c1] at h
    cases hn : En.num (bs.drop pos) with
    | none => rw [hn] at h; cases h
    | some q =>
      obtain ⟨n, k⟩ := q
      rw [hn] at h
      cases h
      obtain ⟨e1, e2⟩ := En.enc_num (drop_mem hb pos) hn
      have e3 := En.num_bd hn
      rw [List.length_drop] at e3
      refine ⟨by omega, by omega, ?_, ⟨e1, by show _ ≤ (0 : Int); decide, by show (0 : Int) ≤ _; decide, by show (0 : Nat) ≤ _; omega⟩, by show (0 : Nat) ≤ _; omega, c1.symm⟩
      rw [putB_1 rfl, show pos + k - pos = k by omega, ← e2]
  rw [if_neg c1] at h
  by_cases c2 : kind = 2
  · rw [if_pos c2] at h
    cases hn : En.num (bs.drop pos) with
    | none => rw [hn] at h; cases h
    | some q =>
      obtain ⟨n, k⟩ := q
      rw [hn] at h
      cases h
      obtain ⟨e1, e2⟩ := En.enc_num (drop_mem hb pos) hn
      have e3 := En.num_bd hn
      rw [List.length_drop] at e3
      refine ⟨by omega, by omega, ?_, ⟨by show 0 < _; decide, ?_, ?_, by show (0 : Nat) ≤ _; omega⟩, by show (0 : Nat) ≤ _; omega, c2.symm⟩
      · rw [putB_2 rfl, show pos + k - pos = k by omega]
        show Sum.inr (En.enc (zig (unzig n))) = _
        rw [zig_unzig, ← e2]
      · show _ ≤ unzig n; unfold unzig; split <;> omega
      · show unzig n ≤ _; unfold unzig; split <;> omega
  rw [if_neg c2] at h
  by_cases c3 : kind = 3
  · rw [if_pos c3] at h
    cases hn : boolAt bs pos with
    | none => rw [hn] at h; cases h
    | some vb =>
      rw [hn] at h
      cases h
      unfold boolAt at hn
      split at hn
      · rename_i hl
        split at hn
        · rename_i h1
          cases hn
          refine ⟨by omega, by omega, ?_, ⟨by show 0 < _; decide, by show _ ≤ (0 : Int); decide, by show (0 : Int) ≤ _; decide, by show (0 : Nat) ≤ _; omega⟩, by show (0 : Nat) ≤ _; omega, c3.symm⟩
          rw [putB_3 rfl, show pos + 1 - pos = 1 by omega, List.drop_eq_getElem_cons hl]
          show Sum.inr [if (bs[pos] == 1) = true then 1 else 0] = Sum.inr [bs[pos]]
          congr 2
          by_cases e : bs[pos] = 1
          · rw [e]; rfl
          · have e0 : bs[pos] = 0 := by omega
            rw [e0]; rfl
        · cases hn
      · cases hn
  rw [if_neg c3] at h
  by_cases c4 : kind = 4 ∨ kind = 5
  · rw [if_pos c4] at h
    cases hn : measure bs pos most with
    | inl er => rw [hn] at h; cases h
    | inr q =>
      obtain ⟨at', n⟩ := q
      rw [hn] at h
      cases h
      unfold measure at hn
      cases hl : limit bs pos most with
      | inl er => rw [hl] at hn; cases hn
      | inr q =>
        obtain ⟨n', k⟩ := q
        rw [hl] at hn
        simp only at hn
        split at hn
        · cases hn
        rename_i hle
        cases hn
        unfold limit at hl
        cases hm2 : En.num (bs.drop pos) with
        | none => rw [hm2] at hl; cases hl
        | some q =>
          obtain ⟨n2, k2⟩ := q
          rw [hm2] at hl
          simp only at hl
          split at hl
          · cases hl
          cases hl
          obtain ⟨e1, e2⟩ := En.enc_num (drop_mem hb pos) hm2
          have e3 := En.num_bd hm2
          rw [List.length_drop] at e3
          have hln : ((bs.drop (pos + k)).take n).length = n := by rw [List.length_take, List.length_drop]; omega
          have hss : (str ((bs.drop (pos + k)).take n)).size = n := by rw [str_sz, hln]
          refine ⟨by omega, by omega, ?_, ⟨by show 0 < _; decide, by show _ ≤ (0 : Int); decide, by show (0 : Int) ≤ _; decide, by show (str _).size ≤ _; rw [hss]; omega⟩, by show (str _).size ≤ _; rw [hss]; omega, rfl⟩
          rw [putB_4 c4]
          show Sum.inr (En.enc (str _).size ++ ofStr (str _)) = _
          rw [hss, ofStr_str' _ (take_mem hb _ _), e2, show pos + k + n - pos = k + n by omega, List.take_add, List.drop_drop]
  rw [if_neg c4] at h
  by_cases c6 : kind = 6
  · rw [if_pos c6] at h
    cases hn : sumAt bs pos with
    | inl er => rw [hn] at h; cases h
    | inr q =>
      obtain ⟨at', n⟩ := q
      rw [hn] at h
      cases h
      obtain ⟨rfl, e2, rfl⟩ := sumAt_ok hn
      have hln : ((bs.drop at').take 32).length = 32 := by rw [List.length_take, List.length_drop]; omega
      have hss : (str ((bs.drop at').take 32)).size = 32 := by rw [str_sz, hln]
      refine ⟨by omega, by omega, ?_, ⟨by show 0 < _; decide, by show _ ≤ (0 : Int); decide, by show (0 : Int) ≤ _; decide, by show (str _).size ≤ _; rw [hss]; omega⟩, by show (str _).size ≤ _; rw [hss]; omega, c6.symm⟩
      rw [putB_6 rfl]
      show (if (str _).size = 32 then Sum.inr (ofStr (str _)) else _) = _
      rw [if_pos hss, ofStr_str' _ (take_mem hb _ _), show at' + 32 - at' = 32 by omega]
  · rw [if_neg c6] at h
    cases hn : limit bs pos most with
    | inl er => rw [hn] at h; cases h
    | inr q =>
      obtain ⟨n, k⟩ := q
      rw [hn] at h
      cases h
      unfold limit at hn
      cases hm2 : En.num (bs.drop pos) with
      | none => rw [hm2] at hn; cases hn
      | some q =>
        obtain ⟨n2, k2⟩ := q
        rw [hm2] at hn
        simp only at hn
        split at hn
        · cases hn
        rename_i hmx
        cases hn
        obtain ⟨e1, e2⟩ := En.enc_num (drop_mem hb pos) hm2
        have e3 := En.num_bd hm2
        rw [List.length_drop] at e3
        refine ⟨by omega, by omega, ?_, ⟨by show 0 < _; decide, by show _ ≤ ((n : Nat) : Int); omega, by show ((n : Nat) : Int) ≤ _; omega, by show (0 : Nat) ≤ _; omega⟩, by show (0 : Nat) ≤ _; omega, by show (7 : Int) = _; omega⟩
        rw [putB_7 rfl]
        show (if ((n : Nat) : Int) < 0 then _ else Sum.inr (En.enc ((n : Nat) : Int).toNat)) = _
        rw [if_neg (by omega), Int.toNat_natCast, show pos + k - pos = k by omega, ← e2]
end Go.Proofs.Ytfdbdhknamkipaa
