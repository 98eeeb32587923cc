import Derived.Test.YtpfekbbmbdegbaaDoorHm2
import Derived.Laws.Strings
namespace Go.Proofs.YtpfekbbmbdegbaaDoor
open Go.RowKit
set_option maxRecDepth 100000 in
theorem extract_any (s t : ByteArray) (k xs : List Nat) (hk : Hid (ofStr s = k)) (hx : Hid (ofStr t = xs)) (hkb : k.length ≤ 140737488355000) (hxb : xs.length ≤ 140737488354000) (w : World) (hL : LaidH w) :
    Calls Tryd.prog 30 #[.string s, .string t] w fun e w' => e = .returned (.string (str (Hm.tag k xs))) ∧ Below w.heap.size w w' := by
  obtain ⟨c, w1, hcv, hby, hb1, hc1, hlt1⟩ := conv_to t w
  rw [hx.out] at hby
  have hsz : Hid (t.size = xs.length) := by show _ = _; rw [← hx.out, ofStr_len]
  have hxl : ∀ x ∈ xs, x < 256 := by rw [← hx.out]; exact ofStr_lt t
  have L1 := hL.below hb1 hL.two
  go_enter Tryd.func30, Tryd.ntmps30
  go_wp2_with (fail)
  refine (tag_any s k hk hkb _ t.size c xs hsz.out hxl hxb (by have := hsz.out; omega) _ L1 hby).mono ?_
  rintro e w2 ⟨rfl, hb2⟩
  go_wp2_with (fail)
  go_ret
  exact ⟨rfl, below_then hb1 hb2⟩
theorem str_eq_of {a b : ByteArray} (h : ofStr a = ofStr b) : a = b := by rw [← str_ofStr a, h, str_ofStr]
theorem str_beq (a b : ByteArray) : (a.toList == b.toList) = decide (ofStr a = ofStr b) := by
  by_cases h : a = b
  · subst h; simp
  · have h1 : ¬ ofStr a = ofStr b := fun e => h (str_eq_of e)
    have h2 : ¬ a.toList = b.toList := fun e => h (by rw [ByteArray.toList_eq, ByteArray.toList_eq] at e; cases a; cases b; simp only [ByteArray.mk.injEq]; exact Array.toList_inj.1 e)
    simp [h1, h2]
theorem xor_zero_iff (a b : Nat) : a ^^^ b = 0 ↔ a = b := by
  constructor
  · intro h
    have : a ^^^ b ^^^ b = 0 ^^^ b := by rw [h]
    simpa [Nat.xor_assoc] using this
  · rintro rfl; simp
theorem or_zero_iff (a b : Nat) : a ||| b = 0 ↔ a = 0 ∧ b = 0 := by
  constructor
  · intro h
    exact ⟨Nat.eq_zero_of_le_zero (h ▸ Nat.left_le_or), Nat.eq_zero_of_le_zero (h ▸ Nat.right_le_or)⟩
  · rintro ⟨rfl, rfl⟩; rfl
set_option maxRecDepth 100000 in
set_option maxHeartbeats 2000000 in
theorem equal_any (a b : ByteArray) (w : World) :
    Calls Tryd.prog 29 #[.string a, .string b] w fun e w' => e = .returned (.bool (decide (ofStr a = ofStr b) && decide (a.size = 32))) ∧ Below w.heap.size w w' := by
  by_cases ha : a.size = 32
  case neg =>
    have t0 : ¬ (a.size : Int) = 32 := by omega
    go_enter Tryd.func29, Tryd.ntmps29
    go_wp2
    go_ret
    exact ⟨by simp [ha], Below.refl _ _⟩
  by_cases hb : b.size = 32
  case neg =>
    have t0 : ¬ (b.size : Int) = 32 := by omega
    have t1 : (a.size : Int) = 32 := by omega
    have hne : ¬ ofStr a = ofStr b := fun e => by have := congrArg List.length e; rw [ofStr_len, ofStr_len] at this; omega
    go_enter Tryd.func29, Tryd.ntmps29
    go_wp2
    go_ret
    exact ⟨by simp [hne], Below.refl _ _⟩
  have t0 : (a.size : Int) = 32 := by omega
  have t1 : (b.size : Int) = 32 := by omega
  obtain ⟨p, hp⟩ : ∃ p, Hid (ofStr a = p) := ⟨_, rfl⟩
  obtain ⟨q, hq⟩ : ∃ q, Hid (ofStr b = q) := ⟨_, rfl⟩
  have hpl : Hid (p.length = 32) := by show _ = _; rw [← hp.out, ofStr_len]; exact ha
  have hql : Hid (q.length = 32) := by show _ = _; rw [← hq.out, ofStr_len]; exact hb
  have hp256 : Hid (∀ i, p.getD i 0 < 256) := fun i => by rw [← hp.out]; exact Hm.getD_lt (ofStr_lt a) i
  have hq256 : Hid (∀ i, q.getD i 0 < 256) := fun i => by rw [← hq.out]; exact Hm.getD_lt (ofStr_lt b) i
  have ha2 := hidIt ha
  have hb2 := hidIt hb
  have hfin : Hid ((decide (ofStr a = ofStr b) && decide (a.size = 32)) = decide (p = q)) := by show _ = _; rw [hp.out, hq.out, ha]; simp
  clear ha hb
  go_enter Tryd.func29, Tryd.ntmps29
  go_wp2
  clear t0 t1
  go_loopw [15, 5, 6] (fun i d _ wr => ∃ (j dv n : Nat), j ≤ 32 ∧ dv < 256 ∧ i = .int .i64 j ∧ d = .int .u8 dv ∧ Hid (dv = 0 ↔ p.take j = q.take j) ∧ Hid (wr = w.drewN n)) (fun i _ _ _ => 32 - (intOf i).toNat)
  case atStart => exact ⟨0, 0, 0, by omega, by omega, rfl, rfl, by constructor <;> simp, rfl⟩
  case round =>
    obtain ⟨j, dv, n, hj, hdv, rfl, rfl, hd, hw⟩ := hrel
    by_cases hlt : j < 32
    · obtain ⟨x, hx⟩ : ∃ x, Hid (p.getD j 0 = x) := ⟨_, rfl⟩
      obtain ⟨y, hy⟩ : ∃ y, Hid (q.getD j 0 = y) := ⟨_, rfl⟩
      have i1 := fun W => idxStr a j (by rw [ha2.out]; exact hlt) .i64 W
      have i2 := fun W => idxStr b j (by rw [hb2.out]; exact hlt) .i64 W
      rw [hp.out, hx.out] at i1
      rw [hq.out, hy.out] at i2
      have hx256 : x < 256 := hx.out ▸ hp256.out j
      have hy256 : y < 256 := hy.out ▸ hq256.out j
      obtain ⟨u, hu⟩ : ∃ u, Hid (x ^^^ y = u) := ⟨_, rfl⟩
      have hu256 : u < 256 := hu.out ▸ Nat.xor_lt_two_pow (n := 8) hx256 hy256
      obtain ⟨v, hv⟩ : ∃ v, Hid (dv ||| u = v) := ⟨_, rfl⟩
      have hv256 : v < 256 := hv.out ▸ Nat.or_lt_two_pow (n := 8) hdv hu256
      have e1 : bits BinOp.xor IntKind.u8 (x : Int) (y : Int) = (u : Int) := by rw [u8_xor x y hx256 hy256, hu.out]
      have e2 : bits BinOp.or IntKind.u8 (dv : Int) (u : Int) = (v : Int) := by rw [u8_or_nat dv u hdv hu256, hv.out]
      have hd2 : Hid (v = 0 ↔ p.take (j + 1) = q.take (j + 1)) := by
        show _ ↔ _
        have h1 : p.take (j + 1) = p.take j ++ [x] := by
          rw [List.take_succ_eq_append_getElem (by have := hpl.out; omega), ← hx.out, List.getD_eq_getElem?_getD, List.getElem?_eq_getElem (by have := hpl.out; omega)]; rfl
        have h2 : q.take (j + 1) = q.take j ++ [y] := by
          rw [List.take_succ_eq_append_getElem (by have := hql.out; omega), ← hy.out, List.getD_eq_getElem?_getD, List.getElem?_eq_getElem (by have := hql.out; omega)]; rfl
        rw [← hv.out, or_zero_iff, hd.out, ← hu.out, xor_zero_iff, h1, h2]
        constructor
        · rintro ⟨h3, h4⟩; rw [h3, h4]
        · intro h3
          have hl : (p.take j).length = (q.take j).length := by rw [List.length_take, List.length_take, hpl.out, hql.out]
          have := List.append_inj h3 hl
          exact ⟨this.1, by simpa using this.2⟩
      clear hd hx hy hu hv
      go_wp2
      go_quiet (fail)
      go_wp2
      go_roundw
      case rel => exact ⟨j + 1, v, _, by omega, hv256, by go_num, rfl, hd2, by rw [hw.out]; exact World.drewN_drewN ..⟩
      case measure => simp [intOf]; omega
    · obtain rfl : j = 32 := by omega
      have h1 : p.take 32 = p := List.take_of_length_le (by rw [hpl.out]; exact Nat.le_refl _)
      have h2 : q.take 32 = q := List.take_of_length_le (by rw [hql.out]; exact Nat.le_refl _)
      have hres : Hid (((dv : Int) == 0) = decide (p = q)) := by
        show _ = _
        have := hd.out
        rw [h1, h2] at this
        by_cases h : dv = 0
        · simp [h, this.1 h]
        · simp [h, mt this.2 h]
      clear hd hlt hj h1 h2
      go_wp2
      go_ret
      refine ⟨by rw [hfin.out, ← hres.out]; rfl, ?_⟩
      rw [hw.out]; exact below_drewN (Below.refl _ _) _
end Go.Proofs.YtpfekbbmbdegbaaDoor
