import Derived.Test.YtnkemflpenlmgaaXr
import Derived.Test.YtnkemflpenlmgaaAwk7
import Derived.Test.YtnkemflpenlmgaaSl
import Derived.Deep.RegionHeld3
import Derived.Deep.AppendLies
import Derived.WalkSpells
import Derived.Laws.Pointers
namespace Go.Proofs.Ytnkemflpenlmgaa
open Go.RowKit
set_option maxRecDepth 100000 in
theorem refxor_ok (a b : Option Addr) (n c1 m c2 : Nat) (xs ys : List Nat) (hn : n = xs.length) (hmn : m = n) (hx : ∀ x ∈ xs, x < 256) (hy : ∀ y ∈ ys, y < 256) (hyl : ys.length = n) (hbig : n ≤ 300) (w : World) (h1 : Bytes w a xs) (h2 : Bytes w b ys) :
    Calls Try.prog 20 #[.slice a n c1, .slice b m c2] w fun e w' => SlB e w' (xo xs ys) ∧ Below w.heap.size w w' := by
  subst hmn
  obtain ⟨i0, hi, hz0, hz1, hz2⟩ := info_parts info5
  have n2 := hidIt hn
  have y2 := hidIt hyl
  have p1 := hidIt h1
  have p2 := hidIt h2
  have bx := hidIt (getD_lt256 hx)
  have bY := hidIt (getD_lt256 hy)
  have hob0 := hidIt (emptyOwn w)
  have hb0 := hidIt ((Below.refl _ w).alloc (Nat.le_refl _) (.cells #[] 5))
  have hlen : Hid ((xo xs ys).length = m) := by show _ = _; rw [xo_len, hn]
  have hget : Hid (∀ i, i < m → (xo xs ys).getD i 0 = xs.getD i 0 ^^^ ys.getD i 0) := fun i hi => xo_get _ _ _ (by omega)
  obtain ⟨zs, hzs⟩ : ∃ zs, Hid (xo xs ys = zs) := ⟨_, rfl⟩
  rw [hzs.out] at hlen hget ⊢
  clear hn hyl h1 h2 hx hy hzs
  go_enter Try.func20, Try.ntmps20
  go_wp2_with (fail)
  generalize w.alloc (.cells #[] 5) = wA at *
  go_loopw [16, 6, 7] (fun i v _ wr => ∃ k : Nat, k ≤ m ∧ i = .int .i64 k ∧ Hid (wr.ownsRow w.heap.size 5 1 v k (vals (zs.take k))) ∧ Hid (Below w.heap.size w wr)) (fun i _ _ _ => m - (intOf i).toNat)
  case atStart => exact ⟨0, by omega, rfl, by rw [List.take_zero]; exact hob0, hb0⟩
  case round =>
    clear hob0 hb0
    obtain ⟨k, hk, rfl, hown, hb⟩ := hrel
    by_cases hlt : k < m
    · obtain ⟨x, hx⟩ : ∃ x, Hid (xs.getD k 0 = x) := ⟨_, rfl⟩
      obtain ⟨y, hy⟩ : ∃ y, Hid (ys.getD k 0 = y) := ⟨_, rfl⟩
      have xb : x < 256 := by rw [← hx.out]; exact bx.out k
      have yb : y < 256 := by rw [← hy.out]; exact bY.out k
      obtain ⟨b1, o1, rfl, e1⟩ := p1.out k (by have := n2.out; omega)
      obtain ⟨b2, o2, rfl, e2⟩ := p2.out k (by have := y2.out; omega)
      have f1 : wr.cell? ⟨b1, o1 + k, none⟩ = some (.int .u8 x) := by rw [hb.out.cell (p := ⟨b1, o1 + k, none⟩) (bytes_lt e1), e1, hx.out]
      have f2 : wr.cell? ⟨b2, o2 + k, none⟩ = some (.int .u8 y) := by rw [hb.out.cell (p := ⟨b2, o2 + k, none⟩) (bytes_lt e2), e2, hy.out]
      have K1 := bytes_lt e1
      have K2 := bytes_lt e2
      have hxor := hidIt (u8_xor_nat x y xb yb)
      have hz := hidIt (hget.out k hlt)
      have hbs := hb.out.size
      have F1 : ∀ q, Value.ownBlock u6 = some q → w.heap.size ≤ q := fun q hq => (hown.out.lt q hq).1
      have g1 : ¬ w.heap.size ≤ b1 := by omega
      have g2 : ¬ w.heap.size ≤ b2 := by omega
      have t1 : (k : Int) < (m : Int) := by omega
      have hown' := hown.out
      clear e1 e2
      go_wp2_with (fail)
      go_region_held3 (fun w' => w'.cell? ⟨b1, o1 + k, none⟩ = some (.int .u8 (x : Int)) ∧ w'.cell? ⟨b2, o2 + k, none⟩ = some (.int .u8 (y : Int)))
        (first
          | go_keep
          | (go_split_ands
             refine ⟨?_, ?_⟩
             · (rw [hgrow.cell_far _ (by simp; omega) (fun e => g1 (F1 _ e.symm))]; assumption)
             · (rw [hgrow.cell_far _ (by simp; omega) (fun e => g2 (F1 _ e.symm))]; assumption)))
        (first
          | (refine step_append_lies _ (by rfl) _ _ _ (by rfl) w.heap.size 5 i0 _ 1 1 Try.underlying28 hi hz0 hz1 hz2 rfl (by omega) _ k _ (by rfl) ((hown'.alloc _).drew) ⟨wr.heap.size, 0, none⟩ 1 1 [.int .u8 (bits BinOp.xor IntKind.u8 (x : Int) (y : Int))] (by rfl) (by rfl) (World.news_of_block (cs := #[.int .u8 (bits BinOp.xor IntKind.u8 (x : Int) (y : Int))]) (t := 5) (fr := (0, 0)) (heap_alloc_new wr _)) (by simp [Value.oneCell']) (by omega) (by unfold maxLen; omega) (by omega) (by simp; omega) (wr.heap.size + 1) (by simp) ?_; intro gg cap w1 hown1 hgrow _ _))
      have hb1 := hidIt (((hb.out.alloc hb.out.size _).drew).grown hgrow (by simp; omega) F1)
      rw [hxor.out] at hown1
      have hown2 : Hid (w1.ownsRow w.heap.size 5 1 (.slice (some ⟨gg, 0, none⟩) (k + 1) cap) (k + 1) (vals (zs.take (k + 1)))) := by
        have ht : zs.take (k + 1) = zs.take k ++ [x ^^^ y] := by
          rw [List.take_add_one, List.getElem?_eq_getElem (by have := hlen.out; omega)]
          have h5 := hz.out
          rw [hx.out, hy.out, List.getD_eq_getElem?_getD, List.getElem?_eq_getElem (by have := hlen.out; omega)] at h5
          rw [← h5]; rfl
        rw [ht, ← vals_append]
        exact hown1
      clear hown hown' hb f1 f2 hxor F1 g1 g2 hgrow hown1
      go_wp2_with (fail)
      go_roundw
      case rel => exact ⟨k + 1, by omega, by go_num, hown2, hb1⟩
      case measure => simp [intOf]; omega
    · obtain rfl : k = m := by omega
      have t1 : ¬ (k : Int) < (k : Int) := by omega
      have hl2 := hlen.out
      have ht : zs.take k = zs := List.take_of_length_le (by omega)
      rw [ht] at hown
      obtain ⟨a', c', rfl, hby, _⟩ := owned_bytes hown.out hl2.symm
      have hcap := owned_cap hown.out
      clear hown ht
      go_wp2_with (fail)
      go_ret2
      exact ⟨⟨a', c', by rw [hl2]; rfl, hby, by omega⟩, hb.out⟩
set_option maxRecDepth 100000 in
theorem refxor_err (a b : Option Addr) (n c1 m c2 : Nat) (h : n ≠ m) (w : World) :
    Calls Try.prog 20 #[.slice a n c1, .slice b m c2] w fun e w' => e = .returned (.tuple #[.slice none 0 0, .int .i64 1]) ∧ w = w' := by
  have h2 : ((n : Int) != (m : Int)) = true := by simp; omega
  have h3 : ¬ (n : Int) = (m : Int) := by omega
  go_enter Try.func20, Try.ntmps20
  go_wp2
  go_ret2
  exact ⟨rfl, rfl⟩
end Go.Proofs.Ytnkemflpenlmgaa
