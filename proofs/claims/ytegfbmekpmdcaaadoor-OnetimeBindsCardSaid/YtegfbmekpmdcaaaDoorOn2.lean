import Derived.Test.YtegfbmekpmdcaaaDoorOn1
namespace Go.Proofs.YtegfbmekpmdcaaaDoor
open Go.RowKit
/-- the box g of parameters, in a world behind w -/
structure PS (w : World) (g : Nat) (b s : Int) (W : World) : Prop where
  c0 : W.cell? ⟨g, 0, none⟩ = some (.int .i64 b)
  c1 : W.cell? ⟨g, 1, none⟩ = some (.int .i64 s)
  bel : Below w.heap.size w W
theorem PS.next {w W W' : World} {g : Nat} {b s : Int} (h : PS w g b s W) (hb : Below W.heap.size W W') : PS w g b s W' :=
  ⟨(hb.cell (p := ⟨g, 0, none⟩) (bytes_lt h.c0)).trans h.c0, (hb.cell (p := ⟨g, 1, none⟩) (bytes_lt h.c1)).trans h.c1, below_then h.bel hb⟩
theorem PS.drew {w W : World} {g : Nat} {b s : Int} (h : PS w g b s W) : PS w g b s W.drew := h.next (Below.refl _ _).drew
theorem PS.new {w W : World} {g : Nat} {b s : Int} (h : PS w g b s W) (o : Obj) : PS w g b s (W.alloc o) := h.next ((Below.refl _ _).alloc (Nat.le_refl _) o)
theorem PS.behind {w W W' : World} {g : Nat} {b s : Int} (hb : Below W.heap.size W W') (h : PS w g b s W) : PS w g b s W' := h.next hb
theorem PS.all {w W : World} {g : Nat} {b s : Int} (h : PS w g b s W) : PS w g b s W ∧ W.cell? ⟨g, 0, none⟩ = some (.int .i64 b) ∧ W.cell? ⟨g, 1, none⟩ = some (.int .i64 s) := ⟨h, h.c0, h.c1⟩
theorem ps_new (w : World) (b s : Int) (t : TypeId) : PS w w.heap.size b s (w.alloc (.cells #[.int .i64 b, .int .i64 s] t)) :=
  ⟨(pb_new w b s t).1, (pb_new w b s t).2, (Below.refl _ _).alloc (Nat.le_refl _) _⟩
set_option maxRecDepth 100000 in
theorem checks_any (b s : Nat) (ho : Ot.okB b s = true) (w : World) :
    Calls Tryd.prog 42 #[.agg #[.int .i64 (b : Int), .int .i64 (s : Int)]] w fun e w' => e = .returned (.int .i64 (Ot.cd b s : Int)) ∧ Below w.heap.size w w' := by
  have hl := Ot.las_bd b s ho
  have hm := Ot.mn_bd b s ho
  have hc := Ot.cd_bd b s ho
  have d1 : Hid (∀ W, Calls Tryd.prog 40 #[.agg #[.int .i64 (b : Int), .int .i64 (s : Int)]] W fun e w' => e = .returned (.int .i64 (Ot.mn b s : Int)) ∧ Below W.heap.size W w') := fun W => digits_fn b s ho W
  have d2 : Hid (∀ W, Calls Tryd.prog 41 #[.agg #[.int .i64 (b : Int), .int .i64 (s : Int)]] W fun e w' => e = .returned (.int .i64 (Ot.las b : Int)) ∧ Below W.heap.size W w') := fun W => last_any b s ho W
  obtain ⟨c, hcd⟩ : ∃ c, Hid (Ot.cd b s = c) := ⟨_, rfl⟩
  have hcd2 : Hid (Ot.cdF 10 b 1 (Ot.mn b s * Ot.las b) = c) := hcd.out
  obtain ⟨m, hmn⟩ : ∃ m, Hid (Ot.mn b s = m) := ⟨_, rfl⟩
  obtain ⟨l, hll⟩ : ∃ l, Hid (Ot.las b = l) := ⟨_, rfl⟩
  obtain ⟨q, hq⟩ : ∃ q, Hid (m * l = q) := ⟨_, rfl⟩
  rw [hcd.out] at hc ⊢
  rw [hmn.out] at hm d1 hcd2
  rw [hll.out] at hl d2 hcd2
  rw [hq.out] at hcd2
  have hqb : q ≤ 65280 := by rw [← hq.out]; exact Nat.mul_le_mul hm.2.1 hl.2.1
  have hmul : (m : Int) * (l : Int) = (q : Int) := by rw [← hq.out]; push_cast; rfl
  have hwr : IntKind.i64.wrap (q : Int) = (q : Int) := IntWalk.i64_in _ (by omega)
  have b8 : b ≤ 8 := hl.2.2.2
  have hc9 : c ≤ 9 := hc.2
  have p0 : PS w w.heap.size (b : Int) (s : Int) (w.alloc (.cells #[.int .i64 (b : Int), .int .i64 (s : Int)] 25)) := ps_new _ _ _ _
  clear hl hm hc hmn hll hq hcd
  go_enter Tryd.func42, Tryd.ntmps42
  go_wp2_with (fail)
  obtain ⟨w1, hw1⟩ : ∃ w1, Hid (w.alloc (.cells #[.int .i64 (b : Int), .int .i64 (s : Int)] 25) = w1) := ⟨_, rfl⟩
  obtain ⟨G, hG⟩ : ∃ G, Hid (w.heap.size = G) := ⟨_, rfl⟩
  rw [hw1.out, hG.out] at p0
  try rw [hw1.out]
  try rw [hG.out]
  have e0 := p0.c0
  have e1 := p0.c1
  clear hw1
  go_region_held3 (fun W' => PS w G (b : Int) (s : Int) W' ∧ W'.cell? ⟨G, 0, none⟩ = some (.int .i64 (b : Int)) ∧ W'.cell? ⟨G, 1, none⟩ = some (.int .i64 (s : Int)))
    (first
      | exact PS.all (by assumption)
      | (go_split_ands; exact PS.all (by assumption))
      | (go_split_ands; exact PS.all (PS.drew (by assumption)))
      | (go_split_ands; exact PS.all (PS.behind (by assumption) (by assumption))))
    (first
      | (go_at_call 40; (with_reducible refine Calls.mono (d1.out _) ?_); rintro e w7 ⟨rfl, hb7⟩)
      | (go_at_call 41; (with_reducible refine Calls.mono (d2.out _) ?_); rintro e w8 ⟨rfl, hb8⟩))
  go_split_ands
  have hS : PS w G (b : Int) (s : Int) w8 := by assumption
  have HB := hidIt hS.bel
  clear hS d1 d2 p0 e0 e1 hb7 hb8 hmul hwr
  go_wp2_with (fail)
  go_loop [4, 5] (fun n p => ∃ k f x : Nat, n = .int .i64 k ∧ p = .int .i64 x ∧ k + f = 10 ∧ k ≤ 10 ∧ Hid (k + Ot.cdF f b x q = c) ∧ 1 ≤ x ∧ x ≤ 16711680) (fun n _ => 10 - (intOf n).toNat)
  case atStart => exact ⟨0, 10, 1, rfl, rfl, rfl, by omega, by have := hcd2.out; show _ = _; omega, by omega, by omega⟩
  case round =>
    obtain ⟨k, f, x, rfl, rfl, hkf, hk, hrel, hx1, hx2⟩ := hrel
    by_cases hlt : x ≤ q
    · have hf : ∃ g, f = g + 1 := ⟨f - 1, by cases f with | zero => have h1 := hrel.out; simp [Ot.cdF] at h1; omega | succ f => rfl⟩
      obtain ⟨g, rfl⟩ := hf
      obtain ⟨y, hy⟩ : ∃ y : Nat, Hid (x * (2 : Nat) ^ b = y) := ⟨x * 2 ^ b, hidIt rfl⟩
      have hr2 : Hid (k + 1 + Ot.cdF g b y q = c) := by
        have h1 := hrel.out
        show _ = _
        rw [Ot.cdF, if_pos hlt, hy.out] at h1
        omega
      have h2 : 2 ^ b ≤ 256 := (shl_pow b b8).2
      have hyb : x ≤ y ∧ y ≤ 16711680 := by
        rw [← hy.out]
        refine ⟨Nat.le_mul_of_pos_right _ (Nat.two_pow_pos b), ?_⟩
        exact Nat.le_trans (Nat.mul_le_mul hlt h2) (by omega)
      have ey : wrap64 ((x : Int) * 2 ^ b) = (y : Int) := by
        have : ((x : Int) * 2 ^ b) = ((y : Nat) : Int) := by rw [← hy.out]; push_cast; rfl
        rw [this]; exact IntWalk.wrap64_in _ ⟨by omega, by omega⟩
      have y1 := hyb.1
      have y2 := hyb.2
      clear hrel h2 hyb hy
      go_wp2
      go_round
      case rel => exact ⟨k + 1, g, y, by go_num, by rw [ey], by omega, by omega, hr2, by omega, by omega⟩
      case measure => simp [intOf]; omega
    · have hkc : Hid (k = c) := by
        have h1 := hrel.out
        show _ = _
        cases f with
        | zero => simpa [Ot.cdF] using h1
        | succ f => rw [Ot.cdF, if_neg hlt] at h1; omega
      clear hrel
      go_wp2
      go_ret
      exact ⟨ret_int (by have := hkc.out; omega), HB.out⟩
set_option maxRecDepth 100000 in
theorem valid_any (b s : Int) (w : World) :
    Calls Tryd.prog 17 #[.agg #[.int .i64 b, .int .i64 s]] w fun e w' => e = .returned (.bool (okZ b s)) ∧ Below w.heap.size w w' := by
  obtain ⟨r, hr⟩ : ∃ r, Hid (okZ b s = r) := ⟨_, rfl⟩
  rw [hr.out]
  obtain ⟨z, hz⟩ : ∃ z : Int, Hid (min (max s 1) 32 = z) := ⟨_, rfl⟩
  have hzs : Hid ((s = z) ↔ (1 ≤ s ∧ s ≤ 32)) := by show _ ↔ _; rw [← hz.out]; omega
  have p0 : PS w w.heap.size b s (w.alloc (.cells #[.int .i64 b, .int .i64 s] 25)) := ps_new _ _ _ _
  have e0 := p0.c0
  have e1 := p0.c1
  go_enter Tryd.func17, Tryd.ntmps17
  go_wp2_with (fail)
  obtain ⟨w1, hw1⟩ : ∃ w1, Hid (w.alloc (.cells #[.int .i64 b, .int .i64 s] 25) = w1) := ⟨_, rfl⟩
  obtain ⟨G, hG⟩ : ∃ G, Hid (w.heap.size = G) := ⟨_, rfl⟩
  rw [hw1.out, hG.out] at p0 e0 e1
  rw [hw1.out, hG.out, hz.out]
  have HB := hidIt p0.bel
  clear hw1
  go_loopw [9] (fun i wr => ∃ k n : Nat, i = .int .i64 k ∧ k ≤ 4 ∧ Hid (wr = w1.drewN n) ∧ Hid (∀ j, j < k → ¬ (b = ((2 ^ j : Nat) : Int) ∧ s = z))) (fun i _ => 4 - (intOf i).toNat)
  case atStart => exact ⟨0, 0, rfl, by omega, rfl, fun j hj => by omega⟩
  case round =>
    obtain ⟨k, n, rfl, hk, hw, hno⟩ := hrel
    by_cases hlt : k < 4
    · obtain ⟨x, hx⟩ : ∃ x : Nat, Hid ((2 : Nat) ^ k = x) := ⟨2 ^ k, hidIt rfl⟩
      have ex : wrap64 ((2 : Int) ^ k) = (x : Int) := by rw [(shl_pow k (by omega)).1, hx.out]
      have c0 : wr.cell? ⟨G, 0, none⟩ = some (.int .i64 b) := by rw [hw.out]; exact e0
      have c1 : wr.cell? ⟨G, 1, none⟩ = some (.int .i64 s) := by rw [hw.out]; exact e1
      clear e0 e1 p0
      have hno2 : Hid (¬ (b = (x : Int) ∧ s = z) → ∀ j, j < k + 1 → ¬ (b = ((2 ^ j : Nat) : Int) ∧ s = z)) := by
        intro h j hj
        by_cases hjk : j = k
        · subst hjk; rw [hx.out]; exact h
        · exact hno.out j (by omega)
      have hyes : Hid (b = (x : Int) ∧ s = z → r = true) := by
        rintro ⟨h1, h2⟩
        rw [← hr.out, okZ_iff]
        refine ⟨?_, hzs.out.1 h2⟩
        have : k = 0 ∨ k = 1 ∨ k = 2 ∨ k = 3 := by omega
        rw [h1, ← hx.out]
        rcases this with rfl | rfl | rfl | rfl <;> decide
      clear hr hzs hno hx
      by_cases hq : b = (x : Int)
      · by_cases hsz : s = z
        · have hr2 := hidIt (hyes.out ⟨hq, hsz⟩)
          clear hno2 hyes
          go_wp2
          go_quiet (fail)
          go_wp2
          go_ret
          exact ⟨by rw [hr2.out]; rfl, by rw [hw.out]; exact below_drewN (below_drewN HB.out _) _⟩
        · have hn3 := hidIt (hno2.out (fun h => hsz h.2))
          clear hno2 hyes
          go_wp2
          go_quiet (fail)
          go_wp2
          go_roundw
          case rel => exact ⟨k + 1, _, by go_num, by omega, by rw [hw.out]; exact World.drewN_drewN .., hn3⟩
          case measure => simp [intOf]; omega
      · have hn3 := hidIt (hno2.out (fun h => hq h.1))
        clear hno2 hyes
        go_wp2
        go_quiet (fail)
        go_wp2
        go_roundw
        case rel => exact ⟨k + 1, _, by go_num, by omega, by rw [hw.out]; exact World.drewN_drewN .., hn3⟩
        case measure => simp [intOf]; omega
    · have hr2 : Hid (r = false) := by
        show _ = _
        rw [← hr.out, Bool.eq_false_iff]
        intro h
        have h1 := (okZ_iff b s).1 h
        have h2 := hzs.out.2 h1.2
        have h3 := hno.out
        rcases h1.1 with h | h | h | h
        · exact h3 0 (by omega) ⟨h, h2⟩
        · exact h3 1 (by omega) ⟨h, h2⟩
        · exact h3 2 (by omega) ⟨h, h2⟩
        · exact h3 3 (by omega) ⟨h, h2⟩
      clear hr hzs hno e0 e1 p0
      go_wp2
      go_ret
      exact ⟨by rw [hr2.out]; rfl, by rw [hw.out]; exact below_drewN HB.out _⟩
end Go.Proofs.YtegfbmekpmdcaaaDoor
