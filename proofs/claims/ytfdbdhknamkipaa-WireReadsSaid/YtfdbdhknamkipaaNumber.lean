import Derived.Test.YtfdbdhknamkipaaReader
namespace Go.Proofs.Ytfdbdhknamkipaa
open Go.RowKit
/-- what number returns: the number, or an error with the offset somewhere -/
def NumPost (R : Nat) (a : Option Addr) (cap : Nat) (bs : List Nat) (pos last : Nat) (w : World) (r : Option (Nat × Nat)) (e : Ending) (w' : World) : Prop :=
  w.grownBy w' (some R) ∧ (match r with
    | some (n, k) => e = .returned (.tuple #[.int .u64 n, .int .i64 0]) ∧ RD w' R a cap bs (pos + k) last 0
    | none => e = .returned (.tuple #[.int .u64 0, .int .i64 3]) ∧ ∃ p, RD w' R a cap bs p last 0)
theorem and_not : ∀ b : Fin 256, bits BinOp.andNot IntKind.u8 (b.val : Int) 128 = ((b.val % 128 : Nat) : Int) := by decide +kernel
theorem u64_cast (n : Nat) : ((n % 2 ^ 64 : Nat) : Int) = (n : Int) % 18446744073709551616 := by omega
theorem wrap_shl (L s : Nat) : IntKind.u64.wrap ((L : Int) * 2 ^ s) = ((L * 2 ^ s % 2 ^ 64 : Nat) : Int) := by
  rw [IntKind.wrap_u64, u64_cast, Int.natCast_mul, Int.natCast_pow]; rfl
theorem test_big {L s : Nat} (hs : s ≤ 63) (h : 2 ^ 64 ≤ L * 2 ^ s) : (IntKind.u64.wrap ((L : Int) * 2 ^ s) / 2 ^ s != (L : Int)) = true := by
  rw [wrap_shl]
  have h1 := mt (En.shift_fits (b := L) hs).1 (by omega)
  have h2 : ((L * 2 ^ s % 2 ^ 64 : Nat) : Int) / 2 ^ s = ((L * 2 ^ s % 2 ^ 64 / 2 ^ s : Nat) : Int) := by simp
  rw [h2]
  generalize L * 2 ^ s % 2 ^ 64 / 2 ^ s = q at *
  simp; omega
theorem wrap_fit {L s : Nat} (h : L * 2 ^ s < 2 ^ 64) : IntKind.u64.wrap ((L : Int) * 2 ^ s) = ((L * 2 ^ s : Nat) : Int) := by
  rw [wrap_shl, Nat.mod_eq_of_lt h]
theorem div_fit (L s : Nat) : ((L * 2 ^ s : Nat) : Int) / 2 ^ s = (L : Int) := by
  have : ((2 : Int) ^ s) = ((2 ^ s : Nat) : Int) := by simp
  rw [this, ← Int.natCast_ediv, Nat.mul_div_cancel _ (Nat.two_pow_pos s)]
theorem or_lt {acc M s : Nat} (h : acc < 2 ^ s) (h64 : acc < 2 ^ 64) (hM : M * 2 ^ s < 2 ^ 64) : acc + M * 2 ^ s < 2 ^ 64 := by
  rw [← En.or_add h]; exact Nat.or_lt_two_pow h64 hM
theorem or_fit {acc M s : Nat} (h : acc < 2 ^ s) (h64 : acc < 2 ^ 64) (hM : M * 2 ^ s < 2 ^ 64) : bits BinOp.or IntKind.u64 (acc : Int) ((M * 2 ^ s : Nat) : Int) = ((acc + M * 2 ^ s : Nat) : Int) := by
  rw [u64_or_nat _ _ h64 hM, En.or_add h]
set_option maxRecDepth 100000 in
theorem number_any (R : Nat) (a : Option Addr) (cap : Nat) (bs : List Nat) (pos last : Nat) (w : World) (h : RD w R a cap bs pos last 0) (hb : ∀ x ∈ bs, x < 256) :
    Calls Try.prog 47 #[.pointer (some ⟨R, 0, none⟩)] w (NumPost R a cap bs pos last w (En.num (bs.drop pos))) := by
  go_enter Try.func47, Try.ntmps47
  go_wp2_with (fail)
  go_loopw [4, 5, 6, 7, 8, 9, 10] (fun n _ _ _ _ _ i wr => ∃ k acc : Nat, k ≤ 10 ∧ i = .int .i64 k ∧ n = .int .u64 acc ∧ acc < 2 ^ (7 * k) ∧ acc < 2 ^ 64 ∧ RD wr R a cap bs (pos + k) last 0 ∧ w.grownBy wr (some R) ∧ Hid (En.num (bs.drop pos) = En.numF (10 - k) k acc (bs.drop (pos + k)))) (fun _ _ _ _ _ _ i _ => 10 - (intOf i).toNat)
  case atStart => exact ⟨0, 0, by omega, rfl, rfl, by simp, by simp, h, g_refl _ _, hidIt rfl⟩
  case round =>
    obtain ⟨k, acc, hk, rfl, rfl, hacc, hacc64, hrd, hg, hrel⟩ := hrel
    by_cases hlt : k < 10
    · by_cases hshort : bs.length - (pos + k) < 1
      · have hfin : Hid (En.num (bs.drop pos) = none) := by
          show _ = _
          rw [hrel.out, List.drop_eq_nil_of_le (by omega), En.numF_nil]
        go_wp2_with (fail)
        refine (next_short R a cap bs (pos + k) last 0 1 _ hrd hshort).mono ?_
        rintro e w1 ⟨rfl, m, rfl⟩
        go_wp2_with (fail)
        go_ret2
        rw [hfin.out]
        exact ⟨g_drewN hg m, rfl, _, hrd.drewN⟩
      · have hplt : pos + k < bs.length := by omega
        go_wp2_with (fail)
        refine (next_ok R a cap bs (pos + k) last 0 1 _ hrd (by omega)).mono ?_
        rintro e w1 ⟨a', c', rfl, hby, hrd1, hg1⟩
        obtain ⟨b, off, rfl, hc⟩ := hby 0 (by simp; omega)
        have hbv : ((bs.drop (pos + k)).take 1).getD 0 0 = bs[pos + k] := by simp [List.getD, hplt]
        rw [hbv] at hc
        have hbv8 : bs[pos + k] < 256 := hb _ (List.getElem_mem _)
        have hdrop : bs.drop (pos + k) = bs[pos + k] :: bs.drop (pos + k + 1) := List.drop_eq_getElem_cons hplt
        rw [hdrop] at hrel
        have hG := g_trans hg hg1
        obtain ⟨f, hf⟩ : ∃ f, 10 - k = f + 1 := ⟨9 - k, by omega⟩
        have hf2 : 10 - (k + 1) = f := by omega
        rw [hf] at hrel
        clear hby hbv hdrop hf hg hg1 hrd
        generalize bs[pos + k] = bv at *
        simp only [Nat.add_zero] at hc
        have hl : bits BinOp.andNot IntKind.u8 (bv : Int) 128 = ((bv % 128 : Nat) : Int) := and_not ⟨bv, hbv8⟩
        have hL : bv % 128 < 128 := Nat.mod_lt _ (by decide)
        have hrel2 : Hid (En.num (bs.drop pos) = if 2 ^ 64 ≤ (bv % 128) * 2 ^ (7 * k) then none else if bv < 128 then (if bv % 128 = 0 ∧ 0 < k then none else some (acc + (bv % 128) * 2 ^ (7 * k), k + 1)) else En.numF f (k + 1) (acc + (bv % 128) * 2 ^ (7 * k)) (bs.drop (pos + k + 1))) := by
          show _ = _
          rw [hrel.out]; rfl
        clear hrel
        generalize bv % 128 = L at *
        have hw : IntKind.u64.wrap (L : Int) = (L : Int) := by rw [IntKind.wrap_u64]; omega
        have hs : k * 7 ≤ 63 := by omega
        have h7 : 7 * k = k * 7 := Nat.mul_comm _ _
        rw [h7] at hrel2 hacc
        clear h7
        by_cases hbig : 2 ^ 64 ≤ L * 2 ^ (k * 7)
        · have hfin : Hid (En.num (bs.drop pos) = none) := by show _ = _; rw [hrel2.out, if_pos hbig]
          have ht := test_big hs hbig
          clear hrel2 hbig hacc hacc64
          go_wp2_with (fail)
          go_ret2
          rw [hfin.out]
          exact ⟨hG, rfl, _, hrd1⟩
        · have hM : L * 2 ^ (k * 7) < 2 ^ 64 := by omega
          have hwr := wrap_fit hM
          have hdv := div_fit L (k * 7)
          have hor := or_fit hacc hacc64 hM
          have hN : acc + L * 2 ^ (k * 7) < 2 ^ (7 * (k + 1)) := by
            rw [show 7 * (k + 1) = k * 7 + 7 by omega, Nat.pow_add]
            have : L * 2 ^ (k * 7) ≤ 127 * 2 ^ (k * 7) := Nat.mul_le_mul_right _ (by omega)
            omega
          have hN64 : acc + L * 2 ^ (k * 7) < 2 ^ 64 := or_lt hacc hacc64 hM
          rw [if_neg hbig] at hrel2
          have hM64 := hidIt hM
          clear hbig hM hacc hacc64
          generalize acc + L * 2 ^ (k * 7) = N at *
          generalize L * 2 ^ (k * 7) = M at *
          by_cases hend : bv < 128
          · rw [if_pos hend] at hrel2
            by_cases hz : L = 0 ∧ 0 < k
            · have hfin : Hid (En.num (bs.drop pos) = none) := by show _ = _; rw [hrel2.out, if_pos hz]
              have z1 : ((L : Int) == 0) = true := by simp; omega
              have z2 : (0 : Int) < (k : Int) := by omega
              clear hrel2 hz
              go_wp2_with (fail)
              go_ret2
              rw [hfin.out]
              exact ⟨hG, rfl, _, hrd1⟩
            · have hfin : Hid (En.num (bs.drop pos) = some (N, k + 1)) := by show _ = _; rw [hrel2.out, if_neg hz]
              by_cases hL0 : L = 0
              · have z1 : ((L : Int) == 0) = true := by simp; omega
                have z2 : ¬ (0 : Int) < (k : Int) := by omega
                clear hrel2 hz hL0
                go_wp2_with (fail)
                go_ret2
                rw [hfin.out]
                exact ⟨hG, rfl, hrd1⟩
              · have z1 : ((L : Int) == 0) = false := by simp; omega
                clear hrel2 hz hL0
                go_wp2_with (fail)
                go_ret2
                rw [hfin.out]
                exact ⟨hG, rfl, hrd1⟩
          · rw [if_neg hend] at hrel2
            go_wp2_with (fail)
            go_roundw
            case rel => exact ⟨k + 1, N, by omega, by go_num, rfl, hN, hN64, hrd1, hG, by rw [hf2]; exact hrel2⟩
            case measure => simp [intOf]; omega
    · have hfin : Hid (En.num (bs.drop pos) = none) := by
        show _ = _
        rw [hrel.out, show 10 - k = 0 by omega]; rfl
      have hk2 : k = 10 := by omega
      subst hk2
      go_wp2_with (fail)
      go_ret2
      rw [hfin.out]
      exact ⟨hg, rfl, _, hrd⟩
end Go.Proofs.Ytfdbdhknamkipaa
