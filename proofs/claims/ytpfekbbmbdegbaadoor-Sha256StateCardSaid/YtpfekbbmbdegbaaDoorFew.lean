import Derived.Test.YtpfekbbmbdegbaaDoorOps
namespace Go.Proofs.YtpfekbbmbdegbaaDoor
open Go.RowKit
def tot (L : Nat → Nat) : Nat → Nat
  | 0 => 0
  | j + 1 => tot L j + L j
theorem tot_le (L : Nat → Nat) (M n : Nat) (h : ∀ i, i < n → L i ≤ M) (j : Nat) (hj : j ≤ n) : tot L j ≤ j * M := by
  induction j with
  | zero => exact Nat.zero_le _
  | succ j ih =>
    have h1 := ih (by omega)
    have h2 := h j (by omega)
    show tot L j + L j ≤ (j + 1) * M
    rw [Nat.add_mul]; omega
theorem tot_mono (L : Nat → Nat) (i j : Nat) (h : i ≤ j) : tot L i ≤ tot L j := by
  induction j with
  | zero => obtain rfl : i = 0 := by omega
            exact Nat.le_refl _
  | succ j ih =>
    rcases Nat.lt_or_ge i (j + 1) with h1 | h1
    · exact Nat.le_trans (ih (by omega)) (Nat.le_add_right _ _)
    · obtain rfl : i = j + 1 := by omega
      exact Nat.le_refl _
def FewR (len : Nat) (L : Nat → Nat) (e : Ending) : Prop := ∃ b : Bool, e = .returned (.bool b) ∧ (b = true → len ≤ 20 ∧ tot L len ≤ 600)
set_option maxRecDepth 100000 in
theorem few_any (a : Option Addr) (len cap : Nat) (S K : Nat → Int) (A : Nat → Option Addr) (L C : Nat → Nat) (bs : Nat → List Nat) (w : World) (hR : OpsR w a len S K A L C bs) (hlc : len ≤ cap) (hlen : len ≤ 140737488355328) (hS : ∀ i, i < len → L i ≤ 140737488355328) :
    Calls Tryd.prog 15 #[.slice a len cap] w fun e w' => FewR len L e ∧ w = w' := by
  have hR2 := hidIt hR
  have hS2 := hidIt hS
  clear hR hS
  go_enter Tryd.func15, Tryd.ntmps15
  go_wp2
  go_loopw [4, 3] (fun i n wr => ∃ (j : Nat) (z : Int), j ≤ len ∧ i = .int .i64 (j : Int) ∧ n = .int .i64 z ∧ Hid (len ≤ 20 → z = (tot L j : Nat)) ∧ w = wr) (fun i _ _ => len - (intOf i).toNat)
  case atStart => exact ⟨0, 0, by omega, rfl, rfl, fun _ => rfl, rfl⟩
  case round =>
    obtain ⟨j, z, hj, rfl, rfl, hz, rfl⟩ := hrel
    by_cases hlt : j < len
    · obtain ⟨b, off, rfl, _, _, c2⟩ := hR2.out.top j hlt
      have i1 : (j : Int) < (len : Int) := by omega
      have i2 : (j : Int) < (cap : Int) := by omega
      obtain ⟨Lj, hLj⟩ : ∃ l, Hid (L j = l) := ⟨_, rfl⟩
      rw [hLj.out] at c2
      have hLb : Lj ≤ 140737488355328 := hLj.out ▸ hS2.out j hlt
      obtain ⟨z2, hz2⟩ : ∃ z2, IntKind.i64.wrap (z + (Lj : Int)) = z2 := ⟨_, rfl⟩
      have hnext : Hid (len ≤ 20 → z2 = (tot L (j + 1) : Nat)) := by
        intro h20
        have e := hz.out h20
        have hb := tot_le L 140737488355328 len (fun i hi => hS2.out i hi) j hj
        rw [← hz2, e]
        show IntKind.i64.wrap _ = ((tot L j + L j : Nat) : Int)
        rw [hLj.out, show ((tot L j : Nat) : Int) + (Lj : Int) = ((tot L j + Lj : Nat) : Int) by omega]
        exact IntWalk.i64_in _ (by omega)
      clear hz
      go_wp2
      go_roundw
      case rel => exact ⟨j + 1, z2, by omega, by go_num, rfl, hnext, trivial⟩
      case measure => simp [intOf]; omega
    · obtain rfl : j = len := by omega
      by_cases h20 : j ≤ 20
      · have e := hz.out h20
        have t0 : (j : Int) ≤ 20 := by omega
        by_cases h600 : z ≤ 600
        · have hb : Hid (tot L j ≤ 600) := by show _ ≤ _; omega
          clear e hz
          go_wp2
          go_ret
          exact ⟨⟨true, rfl, fun _ => ⟨h20, hb.out⟩⟩, rfl⟩
        · have t1 : ¬ z ≤ 600 := h600
          clear e hz
          go_wp2
          go_ret
          exact ⟨⟨false, rfl, fun h => by cases h⟩, rfl⟩
      · have t0 : ¬ (j : Int) ≤ 20 := by omega
        clear hz
        go_wp2
        go_ret
        exact ⟨⟨false, rfl, fun h => by cases h⟩, rfl⟩
end Go.Proofs.YtpfekbbmbdegbaaDoor
