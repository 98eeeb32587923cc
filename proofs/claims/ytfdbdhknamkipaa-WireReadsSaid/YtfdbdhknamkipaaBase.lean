import Derived.Test.YtfdbdhknamkipaaRows
import Derived.Test.YtfdbdhknamkipaaEnc
import Derived.WalkKit
import Derived.ProofKit
import Derived.Outline
import Derived.WalkLawsBesides
import Derived.Laws.BitsAllLaws
import Derived.Laws.Rows
import Derived.Laws.CopyRow
import Derived.Laws.Pointers
import Derived.Deep.QuietTactic
import Derived.BigQuiet
import Derived.Deep.RegionHeld3
import Derived.Deep.AppendLies
import Derived.WalkSpells
import Derived.IntWalk
import Derived.OpenShut
namespace Go.Proofs.Ytfdbdhknamkipaa
open Go.RowKit
theorem hidIt {p : Prop} (h : p) : Hid p := h
theorem ret_int {k : IntKind} {a b : Int} (h : a = b) : Ending.returned (.int k a) = .returned (.int k b) := by rw [h]
theorem below_then {B : Nat} {w w1 w2 : World} (h : Below B w w1) (k : Below w1.heap.size w1 w2) (hB : B ≤ w.heap.size := by exact Nat.le_refl _) : Below B w w2 := h.trans (k.mono (Nat.le_trans hB h.size))
theorem info5 : (Try.prog.info? 5).map (fun i => (i.zero, i.size, i.bytes)) = some (some (.int .u8 0), 1, 1) := by kernel_rfl
def vals (bs : List Nat) : List Value := bs.map fun (b : Nat) => Value.int .u8 (b : Int)
theorem vals_append (a b : List Nat) : vals a ++ vals b = vals (a ++ b) := by simp [vals]
theorem vals_len (a : List Nat) : (vals a).length = a.length := by simp [vals]
/-- the slice at a with n bytes reads as bs -/
def Bytes (w : World) (a : Option Addr) (bs : List Nat) : Prop := ∀ i, i < bs.length → ∃ b off, a = some ⟨b, off, none⟩ ∧ w.cell? ⟨b, off + i, none⟩ = some (.int .u8 (bs.getD i 0 : Nat))
theorem bytes_lt {w : World} {b off : Nat} {v : Value} (h : w.cell? ⟨b, off, none⟩ = some v) : b < w.heap.size := World.block_lt_of_cell? w ⟨b, off, none⟩ h
theorem Bytes.below {w wr : World} {a : Option Addr} {bs : List Nat} (h : Bytes w a bs) (hb : Below w.heap.size w wr) : Bytes wr a bs := by
  intro i hi
  obtain ⟨b, off, h2, h3⟩ := h i hi
  exact ⟨b, off, h2, (hb.cell (p := ⟨b, off + i, none⟩) (bytes_lt h3)).trans h3⟩
theorem owned_bytes {w : World} {base n : Nat} {v : Value} {bs : List Nat} (h : w.ownsRow base 5 1 v n (vals bs)) (hn : n = bs.length) :
    ∃ a cap, v = .slice a bs.length cap ∧ Bytes w a bs ∧ (∀ x, a = some x → base ≤ x.block) := by
  subst hn
  rcases h.2 with ⟨rfl, h0⟩ | ⟨g, cap, cur, rfl, hg0, hg, _, _, _, ht⟩
  · exact ⟨none, 0, by rw [h0], fun i hi => by omega, fun x hx => by cases hx⟩
  · refine ⟨_, cap, rfl, fun i hi => ⟨g, 0, rfl, ?_⟩, fun x hx => by cases hx; exact hg0⟩
    rw [cell_of_row w g (0 + i) _ _ _ hg, Nat.zero_add]
    have h1 : (vals bs)[i]? = some (.int .u8 (bs.getD i 0 : Nat)) := by simp [vals, List.getD, hi]
    rw [← ht, List.getElem?_take] at h1
    split at h1
    · simpa using h1
    · cases h1
theorem byte_or : ∀ a : Fin 256, bits BinOp.or IntKind.u8 (a.val : Int) 128 = ((a.val % 128 + 128 : Nat) : Int) := by decide +kernel
set_option maxRecDepth 100000 in
theorem extend_any (v : Value) (k base n : Nat) (bs : List Nat) (hn : n < 18446744073709551616) (hk : k = bs.length) (hbig : k + 10 ≤ 140737488355328) (w : World) (hb0 : base ≤ w.heap.size) (hown : w.ownsRow base 5 1 v k (vals bs)) :
    Calls Try.prog 45 #[v, .int .u64 n] w fun e w' => ∃ v', e = .returned v' ∧ w'.ownsRow base 5 1 v' (bs ++ En.enc n).length (vals (bs ++ En.enc n)) ∧ Below base w w' := by
  obtain ⟨i0, hi, hz0, hz1, hz2⟩ := info_parts info5
  go_enter Try.func45, Try.ntmps45
  go_wp2
  go_loopw [0, 1] (fun u m wr => ∃ (f q : Nat) (cs : List Nat), m = .int .u64 q ∧ q < 2 ^ (7 * f + 1) ∧ Hid (cs ++ En.encF f q = bs ++ En.enc n) ∧ cs.length + f + 1 ≤ k + 10 ∧ wr.ownsRow base 5 1 u cs.length (vals cs) ∧ Below base w wr) (fun _ m _ => (intOf m).toNat)
  case atStart => exact ⟨9, n, bs, rfl, by simpa using hn, hidIt rfl, by omega, hk ▸ hown, Below.refl _ _⟩
  case round =>
    obtain ⟨f, q, cs, rfl, hq, hrel, hlen, hown, hb⟩ := hrel
    by_cases hlt : 128 ≤ q
    · obtain ⟨f, rfl⟩ : ∃ g, f = g + 1 := ⟨f - 1, by cases f with | zero => simp at hq; omega | succ f => rfl⟩
      have hq8 : (q : Int) % 256 = ((q % 256 : Nat) : Int) := by omega
      have hor := hidIt (byte_or ⟨q % 256, Nat.mod_lt _ (by decide)⟩)
      have hor2 : Hid (bits BinOp.or IntKind.u8 ((q : Int) % 256) 128 = ((q % 128 + 128 : Nat) : Int)) := by
        show _ = _
        rw [hq8, hor.out, show q % 256 % 128 = q % 128 by omega]
      have hn2 : Hid ((cs ++ [q % 128 + 128]) ++ En.encF f (q / 128) = bs ++ En.enc n) := by
        show _ = _
        rw [← hrel.out, En.encF_step f q hlt]; simp
      have hq2 : q / 128 < 2 ^ (7 * f + 1) := by
        rw [Nat.div_lt_iff_lt_mul (by decide)]
        rw [show 7 * (f + 1) + 1 = (7 * f + 1) + 7 by omega, Nat.pow_add] at hq
        simpa using hq
      have hl2 : (cs ++ [q % 128 + 128]).length + f + 1 ≤ k + 10 := by simp; omega
      clear hq8 hor hrel hq
      go_wp2_with (at_builtin; refine wpList_append_own _ rfl _ _ 25 rfl base 5 i0 (.int .u8 0) 1 1 Try.underlying25 hi hz0 hz1 hz2 rfl (by decide) _ _ _ rfl (hown.alloc _) ⟨wr.heap.size, 0, none⟩ 1 1 [(.int .u8 (bits BinOp.or IntKind.u8 ((q : Int) % 256) 128))] rfl rfl ?c1 ?c2 ?c3 ?c4 ?c5 ?_)
      case c1 =>
        intro j u hj
        match j, hj with
        | 0, hj => simp at hj; subst hj; simp [Addr.add]
      case c2 => intro u hu; simp at hu; subst hu; rfl
      case c3 => unfold maxLen; omega
      case c4 => omega
      case c5 => have := hb.size; simp; omega
      intro v' w3 hown3 hg3 _
      have hb3 := (hb.alloc (Nat.le_trans hb0 hb.size) _).grown hg3 (by have := hb.size; simp; omega) (fun q hq => (hown.lt q hq).1)
      rw [hor2.out] at hown3
      have hown4 : w3.ownsRow base 5 1 v' (cs ++ [q % 128 + 128]).length (vals (cs ++ [q % 128 + 128])) := by
        rw [← vals_append, List.length_append]; exact hown3
      have hown5 := hidIt hown4
      clear hown hb hg3 hown3 hown4 hor2
      go_wp2
      go_roundw
      case rel => exact ⟨f, q / 128, _, by simp, hq2, hn2, hl2, hown5.out, hb3⟩
      case measure => simp [intOf]; omega
    · have hq8 : Hid ((q : Int) % 256 = (q : Int)) := by show _ = _; omega
      have hn2 : Hid (cs ++ [q] = bs ++ En.enc n) := by
        show _ = _
        rw [← hrel.out, En.encF_last f q (by omega)]
      clear hrel hq
      go_wp2_with (at_builtin; refine wpList_append_own _ rfl _ _ 25 rfl base 5 i0 (.int .u8 0) 1 1 Try.underlying25 hi hz0 hz1 hz2 rfl (by decide) _ _ _ rfl (hown.alloc _) ⟨wr.heap.size, 0, none⟩ 1 1 [(.int .u8 (q : Int))] rfl rfl ?c1 ?c2 ?c3 ?c4 ?c5 ?_)
      case c1 =>
        intro j u hj
        match j, hj with
        | 0, hj => simp at hj; subst hj; simp [Addr.add]
      case c2 => intro u hu; simp at hu; subst hu; rfl
      case c3 => unfold maxLen; omega
      case c4 => omega
      case c5 => have := hb.size; simp; omega
      intro v' w3 hown3 hg3 _
      have hb3 := (hb.alloc (Nat.le_trans hb0 hb.size) _).grown hg3 (by have := hb.size; simp; omega) (fun q hq => (hown.lt q hq).1)
      have hown4 : w3.ownsRow base 5 1 v' (bs ++ En.enc n).length (vals (bs ++ En.enc n)) := by
        rw [← hn2.out, ← vals_append, List.length_append]; exact hown3
      clear hown hb hg3 hown3
      go_wp2
      go_ret
      exact ⟨_, rfl, hown4, hb3⟩
end Go.Proofs.Ytfdbdhknamkipaa
