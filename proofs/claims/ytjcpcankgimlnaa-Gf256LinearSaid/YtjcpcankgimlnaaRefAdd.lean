import Derived.Test.YtjcpcankgimlnaaSame
import Derived.Deep.RegionHeld3
import Derived.Deep.AppendLies
import Derived.WalkSpells
import Derived.Laws.Pointers
namespace Go.Proofs.Ytjcpcankgimlnaa
open Go.RowKit
theorem Bytes.nil {w : World} {a : Option Addr} {n : Nat} {f : Nat → Nat} (h : Bytes w a n f) : a = none → n = 0 := by
  intro ha
  by_cases hn : n = 0
  · exact hn
  · obtain ⟨_, b, off, h2, _⟩ := h 0 (by omega)
    rw [ha] at h2; cases h2
/-- the first k values -/
def vals (f : Nat → Nat) (k : Nat) : List Value := (List.range k).map fun i => Value.int .u8 (f i)
theorem vals_succ (f : Nat → Nat) (k : Nat) : vals f k ++ [.int .u8 (f k)] = vals f (k + 1) := by simp [vals, List.range_succ]
theorem vals_get (f : Nat → Nat) (k i : Nat) (h : i < k) : (vals f k)[i]? = some (.int .u8 (f i)) := by simp [vals, h]
theorem owned_bytes {w : World} {base n : Nat} {v : Value} {f : Nat → Nat} (h : w.ownsRow base 5 1 v n (vals f n)) (hf : ∀ i, i < n → f i < 256) :
    ∃ a cap, v = .slice a n cap ∧ Bytes w a n f := by
  rcases h.2 with ⟨rfl, rfl⟩ | ⟨g, cap, cur, rfl, _, hg, _, _, _, ht⟩
  · exact ⟨none, 0, rfl, fun i hi => by omega⟩
  · refine ⟨_, cap, rfl, fun i hi => ⟨hf i hi, g, 0, rfl, ?_⟩⟩
    rw [cell_of_row w g (0 + i) _ _ _ hg, Nat.zero_add]
    have h1 := vals_get f n i hi
    rw [← ht, List.getElem?_take] at h1
    split at h1
    · simpa using h1
    · cases h1
set_option maxRecDepth 100000 in
theorem refmuladd_any (a1 a2 : Option Addr) (n c1 c2 c : Nat) (f g : Nat → Nat) (hn : n ≤ 200) (hc : c < 256) (w : World) (h1 : Bytes w a1 n f) (h2 : Bytes w a2 n g) :
    Calls Try.prog 31 #[.slice a1 n c1, .slice a2 n c2, .int .u8 c] w fun e w' => ∃ v, e = .returned v ∧ w'.ownsRow w.heap.size 5 1 v n (vals (fun i => f i ^^^ Gf.mul (g i) c) n) ∧ Below w.heap.size w w' := by
  obtain ⟨i0, hi, hz0, hz1, hz2⟩ := info_parts info5
  go_enter Try.func31, Try.ntmps31
  go_wp2
  go_loopw [7, 8, 11] (fun v _ i wr => ∃ k : Nat, k ≤ n ∧ i = .int .i64 k ∧ wr.ownsRow w.heap.size 5 1 v k (vals (fun i => f i ^^^ Gf.mul (g i) c) k) ∧ Below w.heap.size w wr) (fun _ _ i _ => n - (intOf i).toNat)
  case atStart => exact ⟨0, by omega, rfl, World.ownsRow_nil _ _ _ _, Below.refl _ _⟩
  case round =>
    obtain ⟨k, hk, rfl, hown, hb⟩ := hrel
    by_cases hlt : k < n
    · obtain ⟨hf, b, off, rfl, e1⟩ := h1 k hlt
      obtain ⟨hg, b2, off2, rfl, e2⟩ := h2 k hlt
      have hm := Gf.mul_lt c hg
      have d1 : wr.cell? ⟨b, off + k, none⟩ = some (.int .u8 (f k)) := (hb.cell (p := ⟨b, off + k, none⟩) (bytes_lt e1)).trans e1
      have d2 : wr.cell? ⟨b2, off2 + k, none⟩ = some (.int .u8 (g k)) := (hb.cell (p := ⟨b2, off2 + k, none⟩) (bytes_lt e2)).trans e2
      have hz : (k : Int) < (n : Int) := by omega
      have hx := hidIt (u8_xor_nat (f k) (Gf.mul (g k) c) hf hm)
      have K1 := bytes_lt e1
      have K2 := bytes_lt e2
      clear h1 h2 e1 e2
      have hlt0 := hb.size
      have F1 : ∀ q, Value.ownBlock u7 = some q → w.heap.size ≤ q := fun q hq => (hown.lt q hq).1
      have g1 : ¬ w.heap.size ≤ b := by omega
      have g2 : ¬ w.heap.size ≤ b2 := by omega
      go_wp2
      go_region_held3 (fun w' => w'.cell? ⟨b, off + k, none⟩ = some (.int .u8 (f k)) ∧ w'.cell? ⟨b2, off2 + k, none⟩ = some (.int .u8 (g k)))
        (first
          | go_keep
          | (go_split_ands
             refine ⟨?_, ?_⟩
             · (rw [hgrow.cell_far _ (by simp; omega) (fun e => g1 (F1 _ e.symm))]; assumption)
             · (rw [hgrow.cell_far _ (by simp; omega) (fun e => g2 (F1 _ e.symm))]; assumption)))
        (first
          | (go_at_call 16; refine (refmul_any (g k) c hg hc _).mono ?_; rintro e w' ⟨rfl, rfl⟩)
          | (refine step_append_lies _ (by rfl) _ _ _ (by rfl) w.heap.size 5 i0 _ 1 1 Try.underlying37 hi hz0 hz1 hz2 rfl (by omega) _ k _ (by rfl) ((hown.alloc _).drew) ⟨wr.heap.size, 0, none⟩ 1 1 [.int .u8 (bits BinOp.xor IntKind.u8 (f k : Int) (Gf.mul (g k) c : Int))] (by rfl) (by rfl) (World.news_of_block (cs := #[.int .u8 (bits BinOp.xor IntKind.u8 (f k : Int) (Gf.mul (g k) c : Int))]) (t := 5) (fr := (0, 0)) (heap_alloc_new wr _)) (by simp [Value.oneCell']) (by omega) (by unfold maxLen; omega) (by omega) (by simp; omega) (wr.heap.size + 1) (by simp) ?_; intro gg cap w1 hown1 hgrow _ _))
      have hb1 := ((hb.alloc hb.size _).drew).grown hgrow (by simp; omega) F1
      rw [hx.out, vals_succ (fun i => f i ^^^ Gf.mul (g i) c) k] at hown1
      have hown2 := hidIt hown1
      clear hown hb d1 d2 hx F1 g1 g2 hgrow hown1
      go_wp2
      go_roundw
      case rel => exact ⟨k + 1, by omega, by go_num, hown2.out, hb1⟩
      case measure => simp [intOf]; omega
    · obtain rfl : k = n := by omega
      go_wp2
      go_ret
      exact ⟨_, rfl, hown, hb⟩
end Go.Proofs.Ytjcpcankgimlnaa
