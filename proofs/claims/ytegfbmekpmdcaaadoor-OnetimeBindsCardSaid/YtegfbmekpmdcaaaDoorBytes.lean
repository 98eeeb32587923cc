import Derived.Test.YtegfbmekpmdcaaaDoorWriteS
namespace Go.Proofs.YtegfbmekpmdcaaaDoor
open Go.RowKit
def wd (s : Sh.St) : Nat → Nat
  | 0 => s.a
  | 1 => s.b
  | 2 => s.c
  | 3 => s.d
  | 4 => s.e
  | 5 => s.f
  | 6 => s.g
  | _ => s.h
theorem wd_get (s : Sh.St) (i : Nat) (h : i < 8) : (stA s)[i]? = some (.int .u32 (wd s i : Int)) := by
  match i, h with
  | 0, _ | 1, _ | 2, _ | 3, _ | 4, _ | 5, _ | 6, _ | 7, _ => rfl
theorem wd_lt {s : Sh.St} (h : s.Ok) (i : Nat) : wd s i < 4294967296 := by
  unfold wd
  split
  · exact h.a
  · exact h.b
  · exact h.c
  · exact h.d
  · exact h.e
  · exact h.f
  · exact h.g
  · exact h.h
theorem out_get (s : Sh.St) (i j : Nat) (hi : i < 8) (hj : j < 4) : (Sh.out s).getD (4 * i + j) 0 = wd s i / 2 ^ (8 * (3 - j)) % 256 := by
  match i, hi, j, hj with
  | 0, _, 0, _ | 0, _, 1, _ | 0, _, 2, _ | 1, _, 0, _ | 1, _, 1, _ | 1, _, 2, _ | 2, _, 0, _ | 2, _, 1, _ | 2, _, 2, _ | 3, _, 0, _ | 3, _, 1, _ | 3, _, 2, _ | 4, _, 0, _ | 4, _, 1, _ | 4, _, 2, _ | 5, _, 0, _ | 5, _, 1, _ | 5, _, 2, _ | 6, _, 0, _ | 6, _, 1, _ | 6, _, 2, _ | 7, _, 0, _ | 7, _, 1, _ | 7, _, 2, _ => rfl
  | 0, _, 3, _ | 1, _, 3, _ | 2, _, 3, _ | 3, _, 3, _ | 4, _, 3, _ | 5, _, 3, _ | 6, _, 3, _ | 7, _, 3, _ => simp [Sh.out, Sh.be4, wd]
theorem index8w (s : Sh.St) (i : Nat) (h : i < 8) (w : World) : (Instr.index 85 (.agg (stA s)) (.int .i64 i)).run Tryd.prog w = .ok (.int .u32 (wd s i : Int)) w := by
  have h1 : (0 ≤ (i : Int) ∧ (i : Int) < 8) := by omega
  have hp : ∀ (cs : Array Value) (off : Nat) (w : World), (part 84 cs off).run Tryd.prog w = (match cs[off]? with | some v => (pure v : Sem Value) | none => stuck "part: no such cell").run Tryd.prog w := fun cs off w => by kernel_rfl
  simp [Instr.index, asIntOf, run_underlying Tryd.underlying85, h1, hp, wd_get s i h]
  omega
theorem zero32b (w : World) : (zeroValue 110).run Tryd.prog w = .ok (.agg (rowA .u8 (fun _ => 0) 32 0)) w := by kernel_rfl
theorem sliceAll32 (B : Nat) (W : World) : (Instr.sliceAt 110 (.pointer (some ⟨B, 0, none⟩)) none none none).run Tryd.prog W = .ok (.slice (some ⟨B, 0, none⟩) 32 32) W := by kernel_rfl
theorem row_bytes {w : World} {B n : Nat} {f : Nat → Nat} {t : TypeId} {bs : List Nat} {m : Nat} (h : Blk w B t (rowA .u8 f n n)) (hl : bs.length = m) (hm : m ≤ n) (hf : ∀ i, i < m → f i = bs.getD i 0) : Bytes w (some ⟨B, 0, none⟩) bs := by
  intro i hi
  refine ⟨B, 0, rfl, ?_⟩
  rw [Nat.zero_add, h.cell i, rowA_all _ _ _ _ (by omega), hf i (by omega)]
theorem shr_byte (x k : Nat) : ((x : Int) / 2 ^ k) % 256 = ((x / 2 ^ k % 256 : Nat) : Int) := by
  rw [Int.natCast_emod, Int.natCast_ediv, Int.natCast_pow]; rfl
set_option maxRecDepth 100000 in
set_option maxHeartbeats 2000000 in
theorem bytes_any (g : Nat) (S : Sh.St) (hS : S.Ok) (bf : List Nat) (n : Nat) (w : World) (h : Blk w g 94 (stC S bf n).toArray) :
    Calls Tryd.prog 80 #[.pointer (some ⟨g, 0, none⟩)] w fun e w' => e = .returned (.string (str (Sh.out S))) ∧ Below w.heap.size w w' := by
  have hz := zero32b
  have hg := h.lt
  obtain ⟨-, d0, d1, d2, d3, d4, d5, d6, d7, -⟩ := words_of h
  go_enter Tryd.func80, Tryd.ntmps80
  go_wp2
  clear d0 d1 d2 d3 d4 d5 d6 d7 hg h hz
  obtain ⟨F, hF⟩ : ∃ F : Nat → Nat, Hid (∀ i, F i = (Sh.out S).getD i 0) := ⟨fun i => (Sh.out S).getD i 0, fun _ => rfl⟩
  go_loopw [11, 4, 5, 6, 15] (fun i _ _ _ _ wr => ∃ k : Nat, k ≤ 8 ∧ i = .int .i64 k ∧ Blk wr w.heap.size 110 (rowA .u8 F 32 (4 * k)) ∧ Below w.heap.size w wr) (fun i _ _ _ _ _ => 8 - (intOf i).toNat)
  case atStart => exact ⟨0, by omega, rfl, by rw [Nat.mul_zero, rowA_zero _ F (fun _ => 0)]; exact Blk.new _ _ _, (Below.refl _ _).alloc (Nat.le_refl _) _⟩
  case round =>
    obtain ⟨k, hk, rfl, R, hb⟩ := hrel
    obtain ⟨wo, rfl⟩ : ∃ wo : World, wo = wr := ⟨_, rfl⟩
    by_cases hlt : k < 8
    · have hx := index8w S k hlt
      simp only [stA] at hx
      have hwd := wd_lt hS k
      have hget := hidIt (fun j hj => out_get S k j hlt hj)
      generalize hW : wd S k = W at *
      clear hW
      go_wp2
      go_loopw [15, 6] (fun j _ wr => ∃ l : Nat, l ≤ 4 ∧ j = .int .i64 l ∧ Blk wr w.heap.size 110 (rowA .u8 F 32 (4 * k + l)) ∧ Below w.heap.size w wr) (fun j _ _ => 4 - (intOf j).toNat)
      case atStart => exact ⟨0, by omega, rfl, R, hb⟩
      case round =>
        obtain ⟨l, hl, rfl, R, hb⟩ := hrel
        by_cases hlt2 : l < 4
        · have c := R.cell (4 * k + l)
          rw [rowA_at _ _ _ _ (by omega)] at c
          have fz := R.frozen (4 * k + l)
          obtain ⟨e, he⟩ : ∃ e, e = 3 - l := ⟨_, rfl⟩
          have he2 : (3 : Int) - (l : Int) = (e : Int) := by omega
          have he3 : e ≤ 3 := by omega
          have hval : Hid (((W : Int) / 2 ^ (8 * e)) % 256 = (F (4 * k + l) : Int)) := by
            show _ = _
            rw [shr_byte, hF.out, hget.out l hlt2, he]
          clear he
          go_wp2
          go_roundw
          case rel => exact ⟨l + 1, by omega, by go_num, by rw [hval.out, ← Nat.add_assoc, ← rowA_set .u8 F 32 (4 * k + l) _ rfl]; exact R.set_ _ _, hb.setCell (by simp) _⟩
          case measure => simp [intOf]; omega
        · have R4 : Blk wr w.heap.size 110 (rowA .u8 F 32 (4 * (k + 1))) := (show l = 4 by omega) ▸ R
          clear R
          go_wp2
          go_roundw
          case rel => exact ⟨k + 1, by omega, by go_num, R4, hb⟩
          case measure => simp [intOf]; omega
    · have R8 : Blk wo w.heap.size 110 (rowA .u8 F 32 32) := by
        have e : k = 8 := by omega
        subst e; exact R
      have hby : Bytes wo (some ⟨w.heap.size, 0, none⟩) (Sh.out S) := row_bytes R8 (Sh.out_len S) (Nat.le_refl _) (fun i _ => hF.out i)
      have hcv := conv_str wo (some ⟨w.heap.size, 0, none⟩) 32 32 (Sh.out S) (Sh.out_len S).symm hby
      have hsl := fun W => sliceAll32 w.heap.size W
      obtain ⟨so, hso⟩ : ∃ so, Hid (str (Sh.out S) = so) := ⟨_, rfl⟩
      rw [hso.out] at hcv
      clear R R8 hby
      go_wp2
      go_ret
      exact ⟨by rw [hso.out]; rfl, hb⟩
end Go.Proofs.YtegfbmekpmdcaaaDoor
