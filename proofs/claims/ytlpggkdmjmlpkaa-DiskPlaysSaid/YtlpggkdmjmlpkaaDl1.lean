import Derived.Test.YtlpggkdmjmlpkaaDrd
import Derived.Laws.Strings
namespace Go.Proofs.Ytlpggkdmjmlpkaa
open Go.RowKit
theorem ofStr_str (xs : List Nat) (h : ∀ x ∈ xs, x < 256) : ofStr (str xs) = xs := by
  unfold ofStr str
  rw [List.toList_toArray, List.map_map]
  conv => rhs; rw [← List.map_id xs]
  apply List.map_congr_left
  intro x hx
  have := h x hx
  simp only [Function.comp, id]
  rw [UInt8.toNat_ofNat']
  omega
theorem str_eq_of {a b : ByteArray} (h : ofStr a = ofStr b) : a = b := by rw [← str_ofStr a, h, str_ofStr]
theorem str_beq (a b : ByteArray) : (a.toList == b.toList) = decide (ofStr a = ofStr b) := by
  by_cases h : a = b
  · subst h; simp
  · have h1 : ¬ ofStr a = ofStr b := fun e => h (str_eq_of e)
    have h2 : ¬ a.toList = b.toList := fun e => h (by rw [ByteArray.toList_eq, ByteArray.toList_eq] at e; cases a; cases b; simp only [ByteArray.mk.injEq]; exact Array.toList_inj.1 e)
    simp [h1, h2]
/-- a slice that reads as bs -/
structure Rd (w : World) (a : Option Addr) (n : Nat) (bs : List Nat) : Prop where
  by_ : Bytes w a bs
  len : n = bs.length
  lt : ∀ x ∈ bs, x < 256
set_option maxRecDepth 100000 in
theorem same_any (a b : Option Addr) (n c m d : Nat) (xs ys : List Nat) (w : World) (hx : Rd w a n xs) (hy : Rd w b m ys) :
    Calls Try.prog 24 #[.slice a n c, .slice b m d] w fun e w' => e = .returned (.bool (decide (xs = ys))) ∧ w = w' := by
  have c1 := conv_str w a n c xs hx.len hx.by_
  have c2 := conv_str w b m d ys hy.len hy.by_
  have hq := str_beq (str xs) (str ys)
  rw [ofStr_str xs hx.lt, ofStr_str ys hy.lt] at hq
  obtain ⟨s, hs⟩ : ∃ s, Hid (str xs = s) := ⟨_, rfl⟩
  obtain ⟨t, ht⟩ : ∃ t, Hid (str ys = t) := ⟨_, rfl⟩
  obtain ⟨q, hqq⟩ : ∃ q, Hid (decide (xs = ys) = q) := ⟨_, rfl⟩
  rw [hs.out] at c1 hq
  rw [ht.out] at c2 hq
  rw [hqq.out] at hq ⊢
  clear hx hy hs ht hqq
  go_enter Try.func24, Try.ntmps24
  go_wp2
  go_ret
  exact ⟨rfl, rfl⟩
/-- a row of n slices, the one i reads as F i -/
def Sl2 (w : World) (a : Option Addr) (n : Nat) (F : Nat → List Nat) : Prop := ∀ i, i < n → ∃ b off x m c, a = some ⟨b, off, none⟩ ∧ w.cell? ⟨b, off + i, none⟩ = some (.slice x m c) ∧ Rd w x m (F i)
theorem Rd.below {w w' : World} {a : Option Addr} {n : Nat} {bs : List Nat} (h : Rd w a n bs) (hb : Below w.heap.size w w') : Rd w' a n bs := ⟨h.by_.below hb, h.len, h.lt⟩
theorem Sl2.below {w w' : World} {a : Option Addr} {n : Nat} {F : Nat → List Nat} (h : Sl2 w a n F) (hb : Below w.heap.size w w') : Sl2 w' a n F := fun i hi => by
  obtain ⟨b, off, x, m, c, e1, e2, e3⟩ := h i hi
  exact ⟨b, off, x, m, c, e1, (hb.cell (p := ⟨b, off + i, none⟩) (bytes_lt e2)).trans e2, e3.below hb⟩
theorem BB.rd {w : World} {b : Nat} {bs : List Nat} (h : BB w b bs) (hl : ∀ x ∈ bs, x < 256) : Rd w (some ⟨b, 0, none⟩) bs.length bs := ⟨h.bytes, rfl, hl⟩
theorem Img.sl2 {w : World} {lo R : Nat} {q : Nat → Nat} {n z : Nat} {F : Nat → List Nat} (h : Img w lo R q n z F) (hl : ∀ i, i < n → (F i).length = z) (hb : ∀ i, i < n → ∀ x ∈ F i, x < 256) : Sl2 w (some ⟨R, 0, none⟩) n F := fun i hi => by
  refine ⟨R, 0, some ⟨q i, 0, none⟩, z, z, rfl, ?_, (h.sec i hi).bytes, (hl i hi).symm, hb i hi⟩
  rw [h.row.cell, Nat.zero_add, hdr_get _ _ _ _ hi]; rfl
def sameTo (F G : Nat → List Nat) : Nat → Bool
  | 0 => true
  | k + 1 => sameTo F G k && decide (F k = G k)
theorem sameTo_iff (F G : Nat → List Nat) : ∀ k, sameTo F G k = true ↔ ∀ i, i < k → F i = G i
  | 0 => by simp [sameTo]
  | k + 1 => by
    rw [sameTo, Bool.and_eq_true, sameTo_iff F G k, decide_eq_true_eq]
    constructor
    · rintro ⟨h, e⟩ i hi
      by_cases h1 : i = k
      · rw [h1]; exact e
      · exact h i (by omega)
    · intro h; exact ⟨fun i hi => h i (by omega), h k (by omega)⟩
set_option maxRecDepth 100000 in
set_option maxHeartbeats 1000000 in
theorem sameAll_any (a b : Option Addr) (n c m d : Nat) (F G : Nat → List Nat) (w : World) (hx : Hid (Sl2 w a n F)) (hy : Hid (Sl2 w b m G)) (hn : n ≤ 1000000) (r : Bool) (hr : Hid (r = true ↔ n = m ∧ ∀ i, i < n → F i = G i)) :
    Calls Try.prog 18 #[.slice a n c, .slice b m d] w fun e w' => e = .returned (.bool r) ∧ Below w.heap.size w w' := by
  by_cases hnm : n = m
  · subst hnm
    go_enter Try.func18, Try.ntmps18
    go_wp2_with (fail)
    go_loopw [5] (fun i wr => ∃ k : Nat, i = .int .i64 (k : Int) ∧ k ≤ n ∧ Hid (∀ j, j < k → F j = G j) ∧ Hid (Below w.heap.size w wr)) (fun i _ => n - (intOf i).toNat)
    case atStart => exact ⟨0, rfl, by omega, fun j hj => absurd hj (Nat.not_lt_zero _), Below.refl _ _⟩
    case round =>
      obtain ⟨k, rfl, hk, hs, hb⟩ := hrel
      by_cases hkn : k < n
      · obtain ⟨b1, o1, x1, m1, d1, rfl, e1, r1⟩ := hx.out k hkn
        obtain ⟨b2, o2, x2, m2, d2, rfl, e2, r2⟩ := hy.out k hkn
        have k1 : wr.cell? ⟨b1, o1 + k, none⟩ = some (.slice x1 m1 d1) := (hb.out.cell (p := ⟨b1, o1 + k, none⟩) (bytes_lt e1)).trans e1
        have k2 : wr.cell? ⟨b2, o2 + k, none⟩ = some (.slice x2 m2 d2) := (hb.out.cell (p := ⟨b2, o2 + k, none⟩) (bytes_lt e2)).trans e2
        have dS : Hid (∀ W, Below wr.heap.size wr W → Calls Try.prog 24 #[.slice x1 m1 d1, .slice x2 m2 d2] W fun e w' => e = .returned (.bool (decide (F k = G k))) ∧ W = w') := fun W hW => same_any x1 x2 m1 d1 m2 d2 (F k) (G k) W ((r1.below hb.out).below hW) ((r2.below hb.out).below hW)
        have t1 : (k : Int) < (n : Int) := by omega
        clear e1 e2 r1 r2
        by_cases hfg : F k = G k
        · rw [decide_eq_true hfg] at dS
          have hs2 : Hid (∀ j, j < k + 1 → F j = G j) := fun j hj => by
            by_cases h : j = k
            · rw [h]; exact hfg
            · exact hs.out j (by omega)
          clear hfg
          go_wp2_with (fail)
          go_quiet (first | (go_at_call 24; exact Calls.quiet_of_same ((dS.out _ (below_drewN (Below.refl _ _) _)).mono fun _ _ z => ⟨z.1, z.2.symm⟩)))
          go_wp2_with (fail)
          have hb2 : Hid (Below w.heap.size w (wr.drewN nq)) := below_drewN hb.out _
          exact ⟨⟨k + 1, by go_num, by omega, hs2, hb2⟩, by simp [intOf]; omega⟩
        · rw [decide_eq_false hfg] at dS
          have hrf : Hid (r = false) := by
            show r = false
            cases hh : r
            · rfl
            · exact absurd ((hr.out.1 hh).2 k hkn) hfg
          clear hfg
          go_wp2_with (fail)
          go_quiet (first | (go_at_call 24; exact Calls.quiet_of_same ((dS.out _ (below_drewN (Below.refl _ _) _)).mono fun _ _ z => ⟨z.1, z.2.symm⟩)))
          go_wp2_with (fail)
          go_ret
          exact ⟨by rw [hrf.out]; rfl, below_drewN hb.out _⟩
      · have hrt : Hid (r = true) := hr.out.2 ⟨trivial, fun i hi => hs.out i (by omega)⟩
        have t1 : ¬ (k : Int) < (n : Int) := by omega
        go_wp2_with (fail)
        go_ret
        exact ⟨by rw [hrt.out]; rfl, hb.out⟩
  · have hrf : Hid (r = false) := by
      show r = false
      cases hh : r
      · rfl
      · exact absurd (hr.out.1 hh).1 hnm
    have t1 : ((n : Int) == (m : Int)) = false := by simp; omega
    clear hnm
    go_enter Try.func18, Try.ntmps18
    go_wp2_with (fail)
    go_ret
    exact ⟨by rw [hrf.out]; rfl, Below.refl _ _⟩
set_option maxRecDepth 100000 in
theorem small_any (n z : Int) (a : Option Addr) (len cap : Nat) (w : World) :
    Calls Try.prog 21 #[.int .i64 n, .int .i64 z, .slice a len cap] w fun e w' => e = .returned (.bool (decide (1 ≤ n ∧ n ≤ 8 ∧ 1 ≤ z ∧ z ≤ 8 ∧ len ≤ 40))) ∧ w = w' := by
  obtain ⟨r, hr⟩ : ∃ r, Hid (decide (1 ≤ n ∧ n ≤ 8 ∧ 1 ≤ z ∧ z ≤ 8 ∧ len ≤ 40) = r) := ⟨_, rfl⟩
  rw [hr.out]
  have ht : (1 ≤ n ∧ n ≤ 8 ∧ 1 ≤ z ∧ z ≤ 8 ∧ len ≤ 40) → r = true := fun h => by rw [← hr.out]; exact decide_eq_true h
  have hf : ¬ (1 ≤ n ∧ n ≤ 8 ∧ 1 ≤ z ∧ z ≤ 8 ∧ len ≤ 40) → r = false := fun h => by rw [← hr.out]; exact decide_eq_false h
  replace ht := hidIt ht
  replace hf := hidIt hf
  by_cases h1 : n ≥ 1
  · by_cases h2 : n ≤ 8
    · by_cases h3 : z ≥ 1
      · by_cases h4 : z ≤ 8
        · by_cases h5 : (len : Int) ≤ 40
          · go_enter Try.func21, Try.ntmps21
            go_wp2
            go_ret
            exact ⟨by rw [ht.out (by omega)]; rfl, rfl⟩
          · go_enter Try.func21, Try.ntmps21
            go_wp2
            go_ret
            exact ⟨by rw [hf.out (by omega)]; rfl, rfl⟩
        · go_enter Try.func21, Try.ntmps21
          go_wp2
          go_ret
          exact ⟨by rw [hf.out (by omega)]; rfl, rfl⟩
      · go_enter Try.func21, Try.ntmps21
        go_wp2
        go_ret
        exact ⟨by rw [hf.out (by omega)]; rfl, rfl⟩
    · go_enter Try.func21, Try.ntmps21
      go_wp2
      go_ret
      exact ⟨by rw [hf.out (by omega)]; rfl, rfl⟩
  · go_enter Try.func21, Try.ntmps21
    go_wp2
    go_ret
    exact ⟨by rw [hf.out (by omega)]; rfl, rfl⟩
end Go.Proofs.Ytlpggkdmjmlpkaa
