import Derived.Test.YtnkemflpenlmgaaRl
import Derived.Test.YtnkemflpenlmgaaBy2
namespace Go.Proofs.Ytnkemflpenlmgaa
open Go.RowKit
/-- the word j of a text, of which the first i bytes have been read -/
def pw (m : Nat → Nat) (i j : Nat) : Nat := Cc.word (fun k => if k < i then m k else 0) j
theorem pw_zero (m : Nat → Nat) (j : Nat) : pw m 0 j = 0 := by simp [pw, Cc.word]
theorem pw_other {m : Nat → Nat} {i j k : Nat} (h : i / 4 = j) (hk : k ≠ j) : pw m (i + 1) k = pw m i k := by
  have e : ∀ d, d < 4 → (if 4 * k + d < i + 1 then m (4 * k + d) else 0) = (if 4 * k + d < i then m (4 * k + d) else 0) := by
    intro d hd
    by_cases h1 : 4 * k + d < i
    · rw [if_pos h1, if_pos (by omega)]
    · rw [if_neg h1, if_neg (by omega)]
  unfold pw Cc.word
  have e0 := e 0 (by omega)
  have e1 := e 1 (by omega)
  have e2 := e 2 (by omega)
  have e3 := e 3 (by omega)
  simp only [Nat.add_zero] at e0
  simp only [e0, e1, e2, e3]
theorem pw_lt {m : Nat → Nat} (h : ∀ i, m i < 256) (i j : Nat) : pw m i j < 4294967296 := Cc.word_lt (fun k => by show (if k < i then m k else 0) < 256; split; exact h k; decide) j
theorem or_plus {a b : Nat} (s : Nat) (h : a < 2 ^ s) : a ||| b * 2 ^ s = a + b * 2 ^ s := by
  rw [Nat.or_comm, ← Nat.shiftLeft_eq, ← Nat.shiftLeft_add_eq_or_of_lt h, Nat.add_comm]
theorem pw_same {m : Nat → Nat} (hm : ∀ i, m i < 256) {i j r : Nat} (h : i = 4 * j + r) (hr : r < 4) : pw m i j < 2 ^ (8 * r) ∧ pw m (i + 1) j = pw m i j + m i * 2 ^ (8 * r) := by
  have h0 := hm (4 * j)
  have h1 := hm (4 * j + 1)
  have h2 := hm (4 * j + 2)
  subst h
  unfold pw Cc.word
  match r, hr with
  | 0, _ => simp only [Nat.mul_zero, Nat.pow_zero, Nat.mul_one, Nat.add_zero]; constructor <;> (repeat' split) <;> omega
  | 1, _ => simp only [Nat.reduceMul, Nat.reducePow]; constructor <;> (repeat' split) <;> omega
  | 2, _ => simp only [Nat.reduceMul, Nat.reducePow]; constructor <;> (repeat' split) <;> omega
  | 3, _ => simp only [Nat.reduceMul, Nat.reducePow]; constructor <;> (repeat' split) <;> omega
theorem pw_all {m : Nat → Nat} {n j : Nat} (h : 4 * j + 3 < n) : pw m n j = Cc.word m j := by
  unfold pw Cc.word
  simp only [show 4 * j < n by omega, show 4 * j + 1 < n by omega, show 4 * j + 2 < n by omega, h, if_true]
/-- the words of a state while a text is read -/
def rdF (F m : Nat → Nat) (first nw i k : Nat) : Nat := if first ≤ k ∧ k < first + nw then pw m i (k - first) else F k
theorem rdF_step {F m : Nat → Nat} {first nw i j v : Nat} (hj : i / 4 = j) (hjn : j < nw) (hv : v = pw m (i + 1) j) :
    (rowA .u32 (rdF F m first nw i) 16 16).setIfInBounds (first + j) (.int .u32 v) = rowA .u32 (rdF F m first nw (i + 1)) 16 16 := by
  rw [rowA_upd]
  apply rowA_congr
  intro k _
  unfold rdF
  by_cases hk : k = first + j
  · subst hk
    rw [if_pos rfl, if_pos ⟨by omega, by omega⟩, hv, Nat.add_sub_cancel_left]
  · rw [if_neg hk]
    by_cases hc : first ≤ k ∧ k < first + nw
    · rw [if_pos hc, if_pos hc, pw_other hj (by omega)]
    · rw [if_neg hc, if_neg hc]
structure RdR (w : World) (g : Nat) (F : Nat → Nat) (wr : World) : Prop where
  row : Blk wr g 41 (rowA .u32 F 16 16)
  gr : w.grownBy wr (some g)
theorem rd_next {w wr : World} {g : Nat} {F m : Nat → Nat} {first nw k j q : Nat} (h : RdR w g (rdF F m first nw k) wr) (hj : k / 4 = j) (hjn : j < nw) (hq : q = pw m (k + 1) j) :
    RdR w g (rdF F m first nw (k + 1)) ((wr.setCell ⟨g, first + j, none⟩ (.int .u32 q)).drewN 1) :=
  ⟨by have := (h.row.set_ (first + j) (.int .u32 q)).drewN 1; rwa [rdF_step hj hjn hq] at this, g_drewN (g_set h.gr) 1⟩
set_option maxRecDepth 100000 in
set_option maxHeartbeats 1000000 in
theorem read_any (g first nw : Nat) (s : ByteArray) (F : Nat → Nat) (hn : s.size = 4 * nw) (hfit : first + nw ≤ 16) (hF : ∀ k, F k < 4294967296) (h0 : ∀ k, first ≤ k → k < first + nw → F k = 0) (w : World) (hg : Blk w g 41 (rowA .u32 F 16 16)) :
    Calls Try.prog 27 #[.pointer (some ⟨g, 0, none⟩), .int .i64 first, .string s] w fun e w' => e = .returned (.tuple #[]) ∧
      Blk w' g 41 (rowA .u32 (fun k => if first ≤ k ∧ k < first + nw then Cc.word (fun i => (ofStr s).getD i 0) (k - first) else F k) 16 16) ∧ w.grownBy w' (some g) := by
  obtain ⟨m, hm⟩ : ∃ m : Nat → Nat, Hid (∀ i, m i = (ofStr s).getD i 0) := ⟨_, fun _ => rfl⟩
  have hmf : Hid ((fun i => (ofStr s).getD i 0) = m) := funext fun i => (hm.out i).symm
  have hmb : ∀ i, m i < 256 := by
    intro i
    rw [hm.out, List.getD_eq_getElem?_getD]
    rcases Nat.lt_or_ge i (ofStr s).length with h | h
    · rw [List.getElem?_eq_getElem h]; exact ofStr_lt s _ (List.getElem_mem h)
    · rw [List.getElem?_eq_none h]; decide
  have R0 : RdR w g (rdF F m first nw 0) w := ⟨by
    rw [rowA_congr (g := F) (fun k _ => ?_)]
    · exact hg
    · unfold rdF
      by_cases hc : first ≤ k ∧ k < first + nw
      · rw [if_pos hc, pw_zero, h0 k hc.1 hc.2]
      · rw [if_neg hc], ⟨rfl, rfl, rfl, Nat.le_refl _, fun _ _ _ => rfl⟩⟩
  have hFb := hidIt hF
  have n2 := hidIt hn
  have i2 := hidIt (fun k hk => idxStr s k hk)
  have R2 := hidIt R0
  clear hF h0 R0 hn hg
  rw [hmf.out]
  go_enter Try.func27, Try.ntmps27
  go_wp2
  go_loopw [9, 6] (fun i _ wr => ∃ k : Nat, k ≤ s.size ∧ i = .int .i64 k ∧ RdR w g (rdF F m first nw k) wr) (fun i _ _ => s.size - (intOf i).toNat)
  case atStart => exact ⟨0, by omega, rfl, R2.out⟩
  case round =>
    obtain ⟨k, hk, rfl, R⟩ := hrel
    by_cases hlt : k < s.size
    · obtain ⟨j, r, hkj, hr⟩ : ∃ j r, k = 4 * j + r ∧ r < 4 := ⟨k / 4, k % 4, by omega, by omega⟩
      have ix := i2.out k hlt
      rw [← hm.out] at ix
      have hj4 := n2.out
      have d := R.row.cell (first + j)
      rw [rowA_all _ _ _ _ (by omega)] at d
      have hold : Hid (rdF F m first nw k (first + j) = pw m k j) := by
        show _ = _
        unfold rdF; rw [if_pos ⟨by omega, by omega⟩, Nat.add_sub_cancel_left]
      rw [hold.out] at d
      have fz := R.row.frozen (first + j)
      have hps := pw_same hmb hkj hr
      have hbk := hmb k
      have hpb := pw_lt hmb k j
      have hq : Hid (pw m k j ||| m k * 2 ^ (8 * r) = pw m (k + 1) j) := by show _ = _; rw [or_plus _ hps.1, hps.2]
      obtain ⟨y, hy⟩ : ∃ y, Hid (m k = y) := ⟨_, rfl⟩
      obtain ⟨p, hp⟩ : ∃ p, Hid (pw m k j = p) := ⟨_, rfl⟩
      rw [hy.out] at ix hbk hq
      rw [hp.out] at d hpb hq
      have q1 : (k : Int) / 4 = (j : Int) := by omega
      have q2 : (k : Int) % 4 = (r : Int) := by omega
      obtain ⟨c, hc⟩ : ∃ c, first + j = c := ⟨_, rfl⟩
      have hc2 := hidIt hc
      rw [hc] at d fz
      have q4 : (first : Int) + (j : Int) = (c : Int) := by omega
      have z1 : (c : Int) < 16 := by omega
      have z3 : (0 : Int) ≤ (c : Int) := by omega
      have v3 : IntKind.i64.wrap (c : Int) = (c : Int) := IntWalk.i64_in _ (by omega)
      have z2 : (0 : Int) ≤ (k : Int) := by omega
      have v1 : IntKind.i64.wrap (j : Int) = (j : Int) := IntWalk.i64_in _ (by omega)
      clear hc
      have hR := hidIt R
      have hjn : Hid (j < nw) := by show _ < _; omega
      have hkd : Hid (k / 4 = j) := by show _ = _; omega
      clear hps hfit hj4 R hkj
      obtain ⟨q, hqn⟩ : ∃ q, Hid (q = pw m (k + 1) j) := ⟨_, rfl⟩
      rw [← hqn.out] at hq
      match r, hr with
      | 0, _ =>
        have f2 : IntKind.i64.wrap 0 = 0 := rfl
        have q3 : Int.tmod (k : Int) 4 = 0 := by rw [Int.tmod_eq_emod_of_nonneg (by omega)]; exact q2
        have f1 : IntKind.u32.wrap (y : Int) = (y : Int) := by rw [IntKind.wrap_u32]; omega
        have g1 : bits BinOp.or IntKind.u32 (p : Int) (y : Int) = (q : Int) := by
          have e := hq.out
          rw [Nat.mul_zero, Nat.pow_zero, Nat.mul_one] at e
          rw [u32_or_nat _ _ hpb (by omega), e]
        clear q2 hq
        go_wp2
        go_still_tail 19, (by kernel_rfl)
        repeat still_step
        change wpList _ _ _ _ _ wr.drew
        go_wp2
        go_roundw
        case rel => exact ⟨k + 1, by omega, by go_num, by rw [← hc2.out]; exact rd_next hR.out hkd.out hjn.out hqn.out⟩
        case measure => simp [intOf]; omega
      | 1, _ =>
        have f2 : IntKind.i64.wrap 8 = 8 := rfl
        have q3 : Int.tmod (k : Int) 4 = 1 := by rw [Int.tmod_eq_emod_of_nonneg (by omega)]; exact q2
        have f0 : IntKind.u32.wrap (y : Int) = (y : Int) := by rw [IntKind.wrap_u32]; omega
        have f1 : IntKind.u32.wrap ((y : Int) * 256) = (y : Int) * 256 := by rw [IntKind.wrap_u32]; omega
        have g1 : bits BinOp.or IntKind.u32 (p : Int) ((y : Int) * 256) = (q : Int) := by
          have e := hq.out
          rw [show (2 : Nat) ^ (8 * 1) = 256 from rfl] at e
          rw [show (y : Int) * 256 = ((y * 256 : Nat) : Int) by omega, u32_or_nat _ _ hpb (by omega), e]
        clear q2 hq
        go_wp2
        go_still_tail 19, (by kernel_rfl)
        repeat still_step
        change wpList _ _ _ _ _ wr.drew
        go_wp2
        go_roundw
        case rel => exact ⟨k + 1, by omega, by go_num, by rw [← hc2.out]; exact rd_next hR.out hkd.out hjn.out hqn.out⟩
        case measure => simp [intOf]; omega
      | 2, _ =>
        have f2 : IntKind.i64.wrap 16 = 16 := rfl
        have q3 : Int.tmod (k : Int) 4 = 2 := by rw [Int.tmod_eq_emod_of_nonneg (by omega)]; exact q2
        have f0 : IntKind.u32.wrap (y : Int) = (y : Int) := by rw [IntKind.wrap_u32]; omega
        have f1 : IntKind.u32.wrap ((y : Int) * 65536) = (y : Int) * 65536 := by rw [IntKind.wrap_u32]; omega
        have g1 : bits BinOp.or IntKind.u32 (p : Int) ((y : Int) * 65536) = (q : Int) := by
          have e := hq.out
          rw [show (2 : Nat) ^ (8 * 2) = 65536 from rfl] at e
          rw [show (y : Int) * 65536 = ((y * 65536 : Nat) : Int) by omega, u32_or_nat _ _ hpb (by omega), e]
        clear q2 hq
        go_wp2
        go_still_tail 19, (by kernel_rfl)
        repeat still_step
        change wpList _ _ _ _ _ wr.drew
        go_wp2
        go_roundw
        case rel => exact ⟨k + 1, by omega, by go_num, by rw [← hc2.out]; exact rd_next hR.out hkd.out hjn.out hqn.out⟩
        case measure => simp [intOf]; omega
      | 3, _ =>
        have f2 : IntKind.i64.wrap 24 = 24 := rfl
        have q3 : Int.tmod (k : Int) 4 = 3 := by rw [Int.tmod_eq_emod_of_nonneg (by omega)]; exact q2
        have f0 : IntKind.u32.wrap (y : Int) = (y : Int) := by rw [IntKind.wrap_u32]; omega
        have f1 : IntKind.u32.wrap ((y : Int) * 16777216) = (y : Int) * 16777216 := by rw [IntKind.wrap_u32]; omega
        have g1 : bits BinOp.or IntKind.u32 (p : Int) ((y : Int) * 16777216) = (q : Int) := by
          have e := hq.out
          rw [show (2 : Nat) ^ (8 * 3) = 16777216 from rfl] at e
          rw [show (y : Int) * 16777216 = ((y * 16777216 : Nat) : Int) by omega, u32_or_nat _ _ hpb (by omega), e]
        clear q2 hq
        go_wp2
        go_still_tail 19, (by kernel_rfl)
        repeat still_step
        change wpList _ _ _ _ _ wr.drew
        go_wp2
        go_roundw
        case rel => exact ⟨k + 1, by omega, by go_num, by rw [← hc2.out]; exact rd_next hR.out hkd.out hjn.out hqn.out⟩
        case measure => simp [intOf]; omega
    · have hk2 := hidIt (show k = s.size by omega)
      have hge : ¬ (k : Int) < (s.size : Int) := by omega
      clear hlt
      go_wp2
      go_end0
      refine ⟨rfl, ?_, R.gr⟩
      rw [rowA_congr (g := rdF F m first nw k) (fun c hc => ?_)]
      · exact R.row
      · unfold rdF
        by_cases h : first ≤ c ∧ c < first + nw
        · rw [if_pos h, if_pos h, pw_all (by have := hk2.out; have := n2.out; omega)]
        · rw [if_neg h, if_neg h]
end Go.Proofs.Ytnkemflpenlmgaa
