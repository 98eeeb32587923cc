import Derived.Test.YtnkemflpenlmgaaRef7
import Derived.Test.YtnkemflpenlmgaaBy2
namespace Go.Proofs.Ytnkemflpenlmgaa
open Go.RowKit
theorem or_add {a b : Nat} (s : Nat) (h : a < 2 ^ s) : a ||| b * 2 ^ s = a + b * 2 ^ s := by
  rw [Nat.or_comm, ← Nat.shiftLeft_eq, ← Nat.shiftLeft_add_eq_or_of_lt h, Nat.add_comm]
theorem or_int {a b K : Nat} (s : Nat) (hK : K = 2 ^ s) (h : a < K) (hb : a + b * K < 4294967296) : bits BinOp.or IntKind.u32 (a : Int) ((b : Int) * (K : Int)) = ((a + b * K : Nat) : Int) := by
  subst hK
  rw [show (b : Int) * ((2 ^ s : Nat) : Int) = ((b * 2 ^ s : Nat) : Int) by rw [Int.natCast_mul], u32_or_nat _ _ (by omega) (by omega), or_add s h]
set_option maxRecDepth 100000 in
theorem word_any (s : ByteArray) (i : Nat) (hi : 4 * i + 3 < s.size) (hs : s.size ≤ 100) (w : World) :
    Calls Try.prog 26 #[.string s, .int .i64 i] w fun e w' => e = .returned (.int .u32 (Cc.word (fun k => (ofStr s).getD k 0) i)) ∧ Below w.heap.size w w' := by
  obtain ⟨p0, hp0⟩ : ∃ p, 4 * i = p := ⟨_, rfl⟩
  obtain ⟨p1, hp1⟩ : ∃ p, p0 + 1 = p := ⟨_, rfl⟩
  obtain ⟨p2, hp2⟩ : ∃ p, p0 + 2 = p := ⟨_, rfl⟩
  obtain ⟨p3, hp3⟩ : ∃ p, p0 + 3 = p := ⟨_, rfl⟩
  have x0 := idxStr s p0 (by omega)
  have x1 := idxStr s p1 (by omega)
  have x2 := idxStr s p2 (by omega)
  have x3 := idxStr s p3 (by omega)
  have hb : ∀ k, (ofStr s).getD k 0 < 256 := by
    intro k
    rw [List.getD_eq_getElem?_getD]
    rcases Nat.lt_or_ge k (ofStr s).length with h | h
    · rw [List.getElem?_eq_getElem h]; exact ofStr_lt s _ (List.getElem_mem h)
    · rw [List.getElem?_eq_none h]; decide
  have b0 := hb p0
  have b1 := hb p1
  have b2 := hb p2
  have b3 := hb p3
  obtain ⟨y0, hy0⟩ : ∃ y, (ofStr s).getD p0 0 = y := ⟨_, rfl⟩
  obtain ⟨y1, hy1⟩ : ∃ y, (ofStr s).getD p1 0 = y := ⟨_, rfl⟩
  obtain ⟨y2, hy2⟩ : ∃ y, (ofStr s).getD p2 0 = y := ⟨_, rfl⟩
  obtain ⟨y3, hy3⟩ : ∃ y, (ofStr s).getD p3 0 = y := ⟨_, rfl⟩
  obtain ⟨z, hz⟩ : ∃ z, Hid (Cc.word (fun k => (ofStr s).getD k 0) i = z) := ⟨_, rfl⟩
  have hzv : y0 + y1 * 256 + y2 * 65536 + y3 * 16777216 = z := by
    rw [← hz.out]
    unfold Cc.word
    rw [hp0, hp1, hp2, hp3]
    simp only [hy0, hy1, hy2, hy3]
  rw [hz.out]
  rw [hy0] at x0 b0
  rw [hy1] at x1 b1
  rw [hy2] at x2 b2
  rw [hy3] at x3 b3
  obtain ⟨s1, hs1⟩ : ∃ v, y0 + y1 * 256 = v := ⟨_, rfl⟩
  obtain ⟨s2, hs2⟩ : ∃ v, s1 + y2 * 65536 = v := ⟨_, rfl⟩
  have g1 : bits BinOp.or IntKind.u32 (y0 : Int) ((y1 : Int) * 256) = (s1 : Int) := by have := or_int (a := y0) (b := y1) (K := 256) 8 rfl (by omega) (by omega); rw [hs1] at this; exact this
  have g2 : bits BinOp.or IntKind.u32 (s1 : Int) ((y2 : Int) * 65536) = (s2 : Int) := by have := or_int (a := s1) (b := y2) (K := 65536) 16 rfl (by omega) (by omega); rw [hs2] at this; exact this
  have g3 : bits BinOp.or IntKind.u32 (s2 : Int) ((y3 : Int) * 16777216) = (z : Int) := by have := or_int (a := s2) (b := y3) (K := 16777216) 24 rfl (by omega) (by omega); rw [show s2 + y3 * 16777216 = z by omega] at this; exact this
  have c0 : IntKind.u32.wrap (y0 : Int) = (y0 : Int) := by rw [IntKind.wrap_u32]; omega
  have c1 : IntKind.u32.wrap (y1 : Int) = (y1 : Int) := by rw [IntKind.wrap_u32]; omega
  have c2 : IntKind.u32.wrap (y2 : Int) = (y2 : Int) := by rw [IntKind.wrap_u32]; omega
  have c3 : IntKind.u32.wrap (y3 : Int) = (y3 : Int) := by rw [IntKind.wrap_u32]; omega
  have d1 : IntKind.u32.wrap ((y1 : Int) * 256) = (y1 : Int) * 256 := by rw [IntKind.wrap_u32]; omega
  have d2 : IntKind.u32.wrap ((y2 : Int) * 65536) = (y2 : Int) * 65536 := by rw [IntKind.wrap_u32]; omega
  have d3 : IntKind.u32.wrap ((y3 : Int) * 16777216) = (y3 : Int) * 16777216 := by rw [IntKind.wrap_u32]; omega
  have e0 : (4 : Int) * (i : Int) = (p0 : Int) := by omega
  have e1 : (p0 : Int) + 1 = (p1 : Int) := by omega
  have e2 : (p0 : Int) + 2 = (p2 : Int) := by omega
  have e3 : (p0 : Int) + 3 = (p3 : Int) := by omega
  have w0 : IntKind.i64.wrap (p0 : Int) = (p0 : Int) := IntWalk.i64_in _ (by omega)
  have w1 : IntKind.i64.wrap (p1 : Int) = (p1 : Int) := IntWalk.i64_in _ (by omega)
  have w2 : IntKind.i64.wrap (p2 : Int) = (p2 : Int) := IntWalk.i64_in _ (by omega)
  have w3 : IntKind.i64.wrap (p3 : Int) = (p3 : Int) := IntWalk.i64_in _ (by omega)
  clear hp0 hp1 hp2 hp3 hy0 hy1 hy2 hy3 hzv hs1 hs2 hb hi hs hz b0 b1 b2 b3
  go_enter Try.func26, Try.ntmps26
  go_wp2
  go_quiet (fail)
  go_wp2
  go_ret
  exact ⟨rfl, below_drewN (Below.refl _ _) _⟩
end Go.Proofs.Ytnkemflpenlmgaa
