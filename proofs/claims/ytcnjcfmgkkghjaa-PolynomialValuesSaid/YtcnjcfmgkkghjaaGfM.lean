import Derived.Test.YtcnjcfmgkkghjaaGfS
import Derived.StillTailTactics
namespace Go.Proofs.Ytcnjcfmgkkghjaa
open Go.RowKit
theorem muladd_len (a1 a2 : Option Addr) (n1 n2 c1 c2 : Nat) (c : Int) (h : n1 ≠ n2) (w : World) :
    Calls Try.prog 58 #[.slice a1 n1 c1, .slice a2 n2 c2, .int .u8 c] w fun e w' => e = .returned (.tuple #[.slice none 0 0, .int .i64 1]) ∧ w = w' := by
  go_enter Try.func58, Try.ntmps58
  go_wp2
  go_ret2
  exact ⟨rfl, rfl⟩
set_option maxRecDepth 100000 in
theorem muladd_any (a1 a2 : Option Addr) (n c1 c2 c : Nat) (xs ys : List Nat) (hnx : n ≤ xs.length) (hny : n = ys.length) (hx : ∀ i, xs.getD i 0 < 256) (hy : ∀ i, ys.getD i 0 < 256) (hbig : n ≤ 140737488355328) (hc : c < 256) (w : World) (h1 : Bytes w a1 xs) (h2 : Bytes w a2 ys) :
    Calls Try.prog 58 #[.slice a1 n c1, .slice a2 n c2, .int .u8 c] w fun e w' => e = .returned (.tuple #[.slice (some ⟨w.heap.size + 2, 0, none⟩) n n, .int .i64 0]) ∧ Blk w' (w.heap.size + 2) 5 (rowA .u8 (fun i => xs.getD i 0 ^^^ Gf.mul (ys.getD i 0) c) n n) ∧ Below w.heap.size w w' := by
  have hnx2 := hidIt hnx
  have hny2 := hidIt hny
  have hx2 := hidIt hx
  have hy2 := hidIt hy
  have hx1 := hidIt h1
  have hx3 := hidIt h2
  clear hnx hny hx hy h1 h2
  go_enter Try.func58, Try.ntmps58
  go_wp2_with (fail)
  refine (scale_any a2 n c2 c ys hny2.out hy2.out hbig hc _ hx3.out).mono ?_
  rintro e w1 ⟨rfl, hrow, hbel⟩
  obtain ⟨F, hF⟩ : ∃ F : Nat → Nat, Hid (∀ i, F i = xs.getD i 0) := ⟨_, fun _ => rfl⟩
  obtain ⟨H, hH⟩ : ∃ H : Nat → Nat, Hid (∀ i, H i = Gf.mul (ys.getD i 0) c) := ⟨_, fun _ => rfl⟩
  have hres : Hid ((fun i => xs.getD i 0 ^^^ Gf.mul (ys.getD i 0) c) = fun i => F i ^^^ H i) := funext (fun i => by rw [hF.out, hH.out])
  have hHl : ∀ i, H i < 256 := fun i => by rw [hH.out]; exact Gf.mul_lt _ (hy2.out i)
  have hFl : ∀ i, F i < 256 := fun i => by rw [hF.out]; exact hx2.out i
  rw [show (fun i => Gf.mul (ys.getD i 0) c) = H from (funext hH.out).symm] at hrow
  go_wp2_with (fail)
  go_loopw [20, 9] (fun i _ wr => ∃ k : Nat, k ≤ n ∧ i = .int .i64 k ∧ Blk wr (w.heap.size + 2) 5 (rowA .u8 (fun i => if i < k then F i ^^^ H i else H i) n n) ∧ Below w.heap.size w wr) (fun i _ _ => n - (intOf i).toNat)
  case atStart => exact ⟨0, by omega, rfl, by rw [rowA_congr (f := fun i => if i < 0 then F i ^^^ H i else H i) (g := H) (fun i _ => by simp)]; exact hrow, hbel⟩
  case round =>
    obtain ⟨k, hk, rfl, R, hb⟩ := hrel
    clear hrow hbel
    by_cases hlt : k < n
    · obtain ⟨b, off, rfl, e1⟩ := hx1.out k (by have := hnx2.out; omega)
      rw [← hF.out k] at e1
      have d1 : wr.cell? ⟨b, off + k, none⟩ = some (.int .u8 (F k)) := (hb.cell (p := ⟨b, off + k, none⟩) (bytes_lt e1)).trans e1
      have d2 : wr.cell? ⟨w.heap.size + 2, k, none⟩ = some (.int .u8 (H k)) := by rw [R.cell, rowA_all _ _ _ _ hlt, if_neg (by omega)]
      have d3 := R.frozen k
      have hz : (k : Int) < (n : Int) := by omega
      have R2 := hidIt R
      have hb2 := hidIt hb
      clear e1 R hb
      go_wp2
      go_still_tail 12, (by kernel_rfl)
      still_call ((add_at (H k) (F k) _ rfl rfl (hHl k) (hFl k) rfl _).mono fun _ _ x => ⟨x.1, x.2.symm⟩)
      repeat still_step
      refine wpStill_nil ?_
      change wpList _ _ _ _ _ wr.drew
      go_wp2
      go_roundw
      case rel =>
        refine ⟨k + 1, by omega, by go_num, ?_, (hb2.out.setCell (by simp) _).drew⟩
        have h5 := R2.out.set_ k (.int .u8 ((H k ^^^ F k : Nat) : Int))
        rw [rowA_upd] at h5
        rw [rowA_congr (f := fun i => if i < k + 1 then F i ^^^ H i else H i) (g := fun i => if i = k then H k ^^^ F k else if i < k then F i ^^^ H i else H i) (fun i _ => ?_)]
        · exact h5
        · by_cases h1 : i = k
          · subst h1; rw [if_pos (by omega), if_pos rfl, Nat.xor_comm]
          · rw [if_neg h1]
            by_cases h2 : i < k
            · rw [if_pos h2, if_pos (by omega)]
            · rw [if_neg h2, if_neg (by omega)]
      case measure => simp [intOf]; omega
    · obtain rfl : k = n := by omega
      have R2 := hidIt R
      rw [rowA_congr (f := fun i => if i < k then F i ^^^ H i else H i) (g := fun i => F i ^^^ H i) (fun i hi => by rw [if_pos hi])] at R2
      clear R
      go_wp2
      go_ret2
      exact ⟨rfl, by rw [hres.out]; exact R2.out, hb⟩
end Go.Proofs.Ytcnjcfmgkkghjaa
