import Derived.Test.YtpfekbbmbdegbaaDoorBy2
import Derived.Test.YtpfekbbmbdegbaaDoorHexP
namespace Go.Proofs.YtpfekbbmbdegbaaDoor
open Go.RowKit
def digs : ByteArray := { data := #[48, 49, 50, 51, 52, 53, 54, 55, 56, 57, 97, 98, 99, 100, 101, 102] }
theorem digs_at : ∀ v : Fin 16, (ofStr digs).getD v.val 0 = Hx.dg v.val := by decide +kernel
theorem idxDig (v : Nat) (h : v < 16) (w : World) : (Instr.index 9 (.string { data := #[48, 49, 50, 51, 52, 53, 54, 55, 56, 57, 97, 98, 99, 100, 101, 102] }) (.int .u8 (v : Int))).run Tryd.prog w = .ok (.int .u8 (Hx.dg v : Nat)) w := by
  have := idxStr digs v h .u8 w
  rw [digs_at ⟨v, h⟩] at this
  exact this
theorem and15 (x : Nat) (h : x < 256) : bits BinOp.and IntKind.u8 (x : Int) 15 = ((x % 16 : Nat) : Int) := by
  have := u8_and_nat x 15 h (by decide)
  rw [show (15 : Nat) = 2 ^ 4 - 1 from rfl, Nat.and_two_pow_sub_one_eq_mod] at this
  exact this
set_option maxRecDepth 100000 in
set_option maxHeartbeats 1000000 in
theorem hex_any (s : ByteArray) (hbig : s.size ≤ 35184372088832) (w : World) :
    Calls Tryd.prog 38 #[.string s] w fun e w' => e = .returned (.string (str (Hx.hex (ofStr s)))) ∧ Below w.heap.size w w' := by
  obtain ⟨i0, hi, hz0, hz1, hz2⟩ := info_parts info5
  have hmk : ∀ W, (Instr.makeSlice 28 (.int .i64 0) (.int .i64 (2 * (s.size : Int)))).run Tryd.prog W = .ok (.slice (some ⟨W.heap.size, 0, none⟩) 0 (2 * s.size)) (W.alloc (.cells (rowA .u8 (fun _ => 0) (2 * s.size) 0) 5)) := fun W => by
    have := makeCap (2 * s.size) (by omega) W
    rwa [show ((2 * s.size : Nat) : Int) = 2 * (s.size : Int) by omega] at this
  have hown0 := hidIt (madeOwn w (2 * s.size) (by omega))
  obtain ⟨xs, hxs⟩ : ∃ xs, Hid (ofStr s = xs) := ⟨_, rfl⟩
  have hlen : Hid (s.size = xs.length) := by show _ = _; rw [← hxs.out, ofStr_len]
  have hx256 : Hid (∀ x ∈ xs, x < 256) := by rw [← hxs.out]; exact ofStr_lt s
  go_enter Tryd.func38, Tryd.ntmps38
  go_wp2
  go_loopw [11, 3, 4] (fun i v _ wr => ∃ k : Nat, k ≤ s.size ∧ i = .int .i64 k ∧ wr.ownsRow w.heap.size 5 1 v (Hx.hex (xs.take k)).length (vals (Hx.hex (xs.take k))) ∧ Below w.heap.size w wr) (fun i _ _ _ => s.size - (intOf i).toNat)
  case atStart => exact ⟨0, by omega, rfl, hown0.out, (Below.refl _ _).alloc (Nat.le_refl _) _⟩
  case round =>
    obtain ⟨k, hk, rfl, hown, hb⟩ := hrel
    by_cases hlt : k < s.size
    · obtain ⟨x, hx⟩ : ∃ x, Hid (xs.getD k 0 = x) := ⟨_, rfl⟩
      have hx2 : x < 256 := by
        have := hlen.out
        rw [← hx.out, List.getD_eq_getElem?_getD, List.getElem?_eq_getElem (by omega)]
        exact hx256.out _ (List.getElem_mem _)
      have hidx : ∀ W, (Instr.index 9 (.string s) (.int .i64 (k : Int))).run Tryd.prog W = .ok (.int .u8 (x : Int)) W := fun W => by
        rw [idxStr s k hlt, hxs.out, hx.out]
      obtain ⟨hi4, hh⟩ : ∃ h4, Hid (h4 = x / 16) := ⟨_, rfl⟩
      obtain ⟨lo4, hl⟩ : ∃ l4, Hid (l4 = x % 16) := ⟨_, rfl⟩
      have e1 : (x : Int) / 16 = (hi4 : Int) := by have := hh.out; omega
      have e2 : bits BinOp.and IntKind.u8 (x : Int) 15 = (lo4 : Int) := by rw [and15 x hx2, hl.out]
      have d1 := fun W => idxDig hi4 (by have := hh.out; omega) W
      have d2 := fun W => idxDig lo4 (by have := hl.out; omega) W
      have hsn : Hid (Hx.hex (xs.take (k + 1)) = Hx.hex (xs.take k) ++ [Hx.dg hi4, Hx.dg lo4]) := by
        show _ = _
        have := hlen.out
        rw [List.take_succ_eq_append_getElem (by omega), Hx.hex_app]
        have e : xs[k]'(by omega) = x := by rw [← hx.out, List.getD_eq_getElem?_getD, List.getElem?_eq_getElem (by omega)]; rfl
        rw [e]
        simp [Hx.hex, hh.out, hl.out]
      have hll : (Hx.hex (xs.take k)).length ≤ 2 * s.size := by rw [Hx.hex_len, List.length_take]; omega
      obtain ⟨l, hlq⟩ : ∃ l, Hid (Hx.hex (xs.take k) = l) := ⟨_, rfl⟩
      rw [hlq.out] at hown hll
      have F1 : ∀ q, Value.ownBlock u3 = some q → w.heap.size ≤ q := fun q hq => (hown.lt q hq).1
      have hbs := hb.size
      go_wp2
      go_region_held3 (fun _ => True)
        (first
          | trivial)
        (first
          | (refine step_append_lies _ (by rfl) _ _ _ (by rfl) w.heap.size 5 i0 _ 1 1 Tryd.underlying28 hi hz0 hz1 hz2 rfl (by omega) _ l.length _ (by rfl) ((hown.alloc _).drew) ⟨wr.heap.size, 0, none⟩ 2 2 [.int .u8 (Hx.dg hi4 : Nat), .int .u8 (Hx.dg lo4 : Nat)] (by rfl) (by rfl) (World.news_of_block (cs := #[.int .u8 (Hx.dg hi4 : Nat), .int .u8 (Hx.dg lo4 : Nat)]) (t := 5) (fr := (0, 0)) (heap_alloc_new wr _)) (by simp [Value.oneCell']) (by omega) (by unfold maxLen; omega) (by omega) (by simp; omega) (wr.heap.size + 1) (by simp) ?_; intro gg cap w1 hown1 hgrow _ _))
      all_goals
        have hb1 := ((hb.alloc hb.size _).drew).grown hgrow (by simp; omega) F1
        have hown2 : Hid (w1.ownsRow w.heap.size 5 1 (.slice (some ⟨gg, 0, none⟩) (l.length + 2) cap) (l.length + 2) (vals (Hx.hex (xs.take (k + 1))))) := by
          rw [hsn.out, hlq.out]; exact owned_append (xs := l) (ys := [Hx.dg hi4, Hx.dg lo4]) hown1 rfl
        have hlen2 : Hid ((Hx.hex (xs.take (k + 1))).length = l.length + 2) := by show _ = _; rw [hsn.out, hlq.out]; simp
        clear hown hb F1 hgrow hown1 hll d1 d2 e1 e2 hidx hmk
        go_wp2
        go_roundw
        case rel => exact ⟨k + 1, by omega, by go_num, by rw [hlen2.out]; exact hown2.out, hb1⟩
        case measure => simp [intOf]; omega
    · have R8 : wr.ownsRow w.heap.size 5 1 u3 (Hx.hex xs).length (vals (Hx.hex xs)) := by
        have e : xs.take k = xs := List.take_of_length_le (by have := hlen.out; omega)
        rw [e] at hown; exact hown
      obtain ⟨a', cap', rfl, hby, _⟩ := owned_bytes R8 rfl
      have hcv := conv_str wr a' (Hx.hex xs).length cap' (Hx.hex xs) rfl hby
      obtain ⟨so, hso⟩ : ∃ so, Hid (str (Hx.hex xs) = so) := ⟨_, rfl⟩
      rw [hso.out] at hcv
      clear hown R8 hby hmk
      go_wp2
      go_ret
      exact ⟨by rw [hxs.out, hso.out]; rfl, hb⟩
end Go.Proofs.YtpfekbbmbdegbaaDoor
