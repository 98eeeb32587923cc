import Derived.Test.YtmaifngoffmjnaaDoorRefHex
import Derived.Test.YtmaifngoffmjnaaDoorFromHex
namespace Go.Proofs.YtmaifngoffmjnaaDoor
open Go.RowKit
theorem Hx.un_snoc (n : Nat) : ∀ (l r : List Nat), l.length ≤ n → ∀ (a b x y : Nat), Hx.un l = some r → Hx.val a = some x → Hx.val b = some y → Hx.un (l ++ [a, b]) = some (r ++ [16 * x + y]) := by
  induction n with
  | zero =>
    intro l r hl a b x y h ha hb
    obtain rfl : l = [] := List.eq_nil_of_length_eq_zero (by omega)
    simp [Hx.un] at h
    subst h
    simp [Hx.un, ha, hb]
  | succ n ih =>
    intro l r hl a b x y h ha hb
    match l, hl, h with
    | [], _, h =>
      simp [Hx.un] at h
      subst h
      simp [Hx.un, ha, hb]
    | [_], _, h => simp [Hx.un] at h
    | c :: d :: t, hl, h =>
      simp only [Hx.un] at h
      split at h
      · rename_i p q u hp hq hu
        simp only [Option.some.injEq] at h
        subst h
        have := ih t u (by simp at hl; omega) a b x y hu ha hb
        simp only [List.cons_append, Hx.un, hp, hq, this]
      · cases h
def dv (c : Nat) : Int := match Hx.val c with
  | some v => v
  | none => -1
theorem refdigit_any (c : Nat) (hc : c < 256) (w : World) :
    Calls Tryd.prog 32 #[.int .u8 c] w fun e w' => e = .returned (.int .i64 (dv c)) ∧ w = w' := by
  unfold dv Hx.val
  by_cases h1 : 48 ≤ c ∧ c ≤ 57
  · rw [if_pos h1]
    obtain ⟨l1, l2⟩ := h1
    have e : Hid (((c - 48 : Nat) : Int) = (c : Int) - 48) := by show _ = _; omega
    simp only
    rw [e.out]
    go_enter Tryd.func32, Tryd.ntmps32
    go_wp2
    go_ret
    exact ⟨rfl, rfl⟩
  · rw [if_neg h1]
    by_cases h2 : 97 ≤ c ∧ c ≤ 102
    · rw [if_pos h2]
      obtain ⟨l1, l2⟩ := h2
      have e : Hid (((c - 87 : Nat) : Int) = (c : Int) - 97 + 10) := by show _ = _; omega
      have l3 : ¬ c ≤ 57 := by omega
      have l4 : 48 ≤ c := by omega
      clear h1
      simp only
      rw [e.out]
      go_enter Tryd.func32, Tryd.ntmps32
      go_wp2
      go_ret
      exact ⟨rfl, rfl⟩
    · rw [if_neg h2]
      simp only
      by_cases a : c < 48
      · have l1 : ¬ 48 ≤ c := by omega
        have l2 : ¬ 97 ≤ c := by omega
        clear h1 h2
        go_enter Tryd.func32, Tryd.ntmps32
        go_wp2
        go_ret
        exact ⟨rfl, rfl⟩
      · by_cases b : c < 97
        · have l1 : 48 ≤ c := by omega
          have l3 : ¬ c ≤ 57 := by omega
          have l2 : ¬ 97 ≤ c := by omega
          clear h1 h2
          go_enter Tryd.func32, Tryd.ntmps32
          go_wp2
          go_ret
          exact ⟨rfl, rfl⟩
        · have l1 : 48 ≤ c := by omega
          have l3 : ¬ c ≤ 57 := by omega
          have l2 : 97 ≤ c := by omega
          have l4 : ¬ c ≤ 102 := by omega
          clear h1 h2
          go_enter Tryd.func32, Tryd.ntmps32
          go_wp2
          go_ret
          exact ⟨rfl, rfl⟩
theorem getD_lt {xs : List Nat} {k : Nat} (h : ∀ x ∈ xs, x < 256) (hk : k < xs.length) : xs.getD k 0 < 256 := by
  rw [List.getD_eq_getElem?_getD, List.getElem?_eq_getElem hk]; exact h _ (List.getElem_mem _)
set_option maxRecDepth 100000 in
set_option maxHeartbeats 2000000 in
theorem reffrom_any (s : ByteArray) (hbig : s.size ≤ 35184372088832) (w : World) :
    Calls Tryd.prog 25 #[.string s] w fun e w' => FHPost (Hx.un (ofStr s)) e ∧ Below w.heap.size w w' := by
  obtain ⟨i0, hi, hz0, hz1, hz2⟩ := info_parts info5
  obtain ⟨xs, hxs⟩ : ∃ xs, Hid (ofStr s = xs) := ⟨_, rfl⟩
  have hlen : Hid (s.size = xs.length) := by show _ = _; rw [← hxs.out, ofStr_len]
  have hx256 : Hid (∀ x ∈ xs, x < 256) := by rw [← hxs.out]; exact ofStr_lt s
  rw [hxs.out]
  by_cases hodd : s.size % 2 = 0
  · have ht : ((s.size : Int) % 2 != 0) = false := by simp; omega
    have hev : Hid (xs.length % 2 = 0) := by show _ = _; rw [← hlen.out]; exact hodd
    have hev2 := hidIt hodd
    have hown0 := hidIt (World.ownsRow_lit (base := w.heap.size) (e := 5) (size := 1) w #[] 0 (Nat.le_refl _) (by decide) rfl)
    clear hodd
    go_enter Tryd.func25, Tryd.ntmps25
    go_wp2
    go_loopw [5, 4, 6, 7, 2, 3] (fun i v _ _ _ _ wr => ∃ (k : Nat) (l : List Nat), k ≤ s.size ∧ i = .int .i64 k ∧ Hid (k % 2 = 0) ∧ Hid (Hx.un (xs.take k) = some l) ∧ wr.ownsRow w.heap.size 5 1 v l.length (vals l) ∧ Below w.heap.size w wr) (fun i _ _ _ _ _ _ => s.size - (intOf i).toNat)
    case atStart => exact ⟨0, [], by omega, rfl, hidIt rfl, hidIt rfl, hown0.out, (Below.refl _ _).alloc (Nat.le_refl _) _⟩
    case round =>
      obtain ⟨k, l, hk, rfl, hke, hl, hown, hb⟩ := hrel
      by_cases hlt : k < s.size
      · have hlt2 : k + 1 < s.size := by have := hke.out; have := hev2.out; omega
        obtain ⟨x, hx⟩ : ∃ x, Hid (xs.getD k 0 = x) := ⟨_, rfl⟩
        obtain ⟨y, hy⟩ : ∃ x, Hid (xs.getD (k + 1) 0 = x) := ⟨_, rfl⟩
        have hx2 : x < 256 := hx.out ▸ getD_lt hx256.out (by rw [← hlen.out]; exact hlt)
        have hy2 : y < 256 := hy.out ▸ getD_lt hx256.out (by rw [← hlen.out]; exact hlt2)
        have hidx : ∀ W, (Instr.index 9 (.string s) (.int .i64 (k : Int))).run Tryd.prog W = .ok (.int .u8 (x : Int)) W := fun W => by
          rw [idxStr s k hlt, hxs.out, hx.out]
        have hidy : ∀ W, (Instr.index 9 (.string s) (.int .i64 ((k : Int) + 1))).run Tryd.prog W = .ok (.int .u8 (y : Int)) W := fun W => by
          have := idxStr s (k + 1) hlt2 .i64 W
          rwa [hxs.out, hy.out, show ((k + 1 : Nat) : Int) = (k : Int) + 1 by omega] at this
        have hwr : IntKind.i64.wrap ((k : Int) + 1) = (k : Int) + 1 := IntWalk.i64_in _ (by omega)
        obtain ⟨A, hA⟩ : ∃ A, Hid (dv x = A) := ⟨_, rfl⟩
        obtain ⟨B, hB⟩ : ∃ B, Hid (dv y = B) := ⟨_, rfl⟩
        have hBd : Hid (A ≤ 15 ∧ B ≤ 15 ∧ -1 ≤ A ∧ -1 ≤ B) := by
          have q : ∀ z, dv z ≤ 15 ∧ -1 ≤ dv z := fun z => by
            unfold dv
            cases h : Hx.val z with
            | none => simp
            | some v => have := Hx.val_lt h; simp only; omega
          have h1 := q x
          have h2 := q y
          rw [hA.out] at h1
          rw [hB.out] at h2
          exact ⟨h1.1, h2.1, h1.2, h2.2⟩
        have hA2 : dv x = A := hA.out
        have hB2 : dv y = B := hB.out
        clear ht
        go_wp2_with (fail)
        go_quiet ((go_at_call 32; exact Calls.quiet_of_same ((refdigit_any _ (by assumption) _).mono fun _ _ z => ⟨z.1, z.2.symm⟩)))
        rw [hA.out, hB.out]
        clear hA2 hB2 hidx hidy hwr
        by_cases hbad : A < 0 ∨ B < 0
        · have hun : Hid (Hx.un xs = none) := by
            rcases hbad with h | h
            · refine Hx.un_none _ xs (Nat.le_refl _) (.inr ⟨k, by rw [← hlen.out]; exact hlt, ?_⟩)
              rw [hx.out]
              cases hv : Hx.val x with
              | none => rfl
              | some v => have := hA.out; unfold dv at this; rw [hv] at this; simp only at this; omega
            · refine Hx.un_none _ xs (Nat.le_refl _) (.inr ⟨k + 1, by rw [← hlen.out]; exact hlt2, ?_⟩)
              rw [hy.out]
              cases hv : Hx.val y with
              | none => rfl
              | some v => have := hB.out; unfold dv at this; rw [hv] at this; simp only at this; omega
          by_cases ha : A < 0
          · clear hbad
            go_wp2
            go_ret2
            exact ⟨(by unfold FHPost; rw [hun.out]; rfl : FHPost _ _), below_drewN hb _⟩
          · have hb' : B < 0 := by omega
            clear hbad
            go_wp2
            go_ret2
            exact ⟨(by unfold FHPost; rw [hun.out]; rfl : FHPost _ _), below_drewN hb _⟩
        · have na : ¬ A < 0 := by omega
          have nb : ¬ B < 0 := by omega
          have na2 : 0 ≤ A := by omega
          have nb2 : 0 ≤ B := by omega
          have na3 : A ≤ 15 := hBd.out.1
          have nb3 : B ≤ 15 := hBd.out.2.1
          obtain ⟨a, hva, rfl⟩ : ∃ a : Nat, Hid (Hx.val x = some a) ∧ A = (a : Int) := by
            have := hA.out; unfold dv at this
            cases hv : Hx.val x with
            | none => rw [hv] at this; simp only at this; omega
            | some v => rw [hv] at this; exact ⟨v, rfl, this.symm⟩
          obtain ⟨b, hvb, rfl⟩ : ∃ a : Nat, Hid (Hx.val y = some a) ∧ B = (a : Int) := by
            have := hB.out; unfold dv at this
            cases hv : Hx.val y with
            | none => rw [hv] at this; simp only at this; omega
            | some v => rw [hv] at this; exact ⟨v, rfl, this.symm⟩
          have hnext : Hid (Hx.un (xs.take (k + 2)) = some (l ++ [16 * a + b])) := by
            have := Hx.un_snoc _ (xs.take k) l (Nat.le_refl _) x y a b hl.out hva.out hvb.out
            have e : xs.take (k + 2) = xs.take k ++ [x, y] := by
              have h1 : k < xs.length := by rw [← hlen.out]; exact hlt
              have h2 : k + 1 < xs.length := by rw [← hlen.out]; exact hlt2
              rw [show k + 2 = (k + 1) + 1 by omega, List.take_succ_eq_append_getElem h2, List.take_succ_eq_append_getElem h1]
              have q1 : xs[k] = x := by rw [← hx.out, List.getD_eq_getElem?_getD, List.getElem?_eq_getElem h1]; rfl
              have q2 : xs[k + 1] = y := by rw [← hy.out, List.getD_eq_getElem?_getD, List.getElem?_eq_getElem h2]; rfl
              rw [q1, q2]; simp
            show _ = _
            rw [e]; exact this
          have hll : l.length ≤ k := by
            have h1 := (Hx.hex_un _ _ _ (Nat.le_refl _) hl.out).1
            have h2 := Hx.hex_len l
            rw [h1, List.length_take] at h2
            omega
          have hcast : Hid ((16 * (a : Int) + (b : Int)) = ((16 * a + b : Nat) : Int)) := by show _ = _; omega
          have hbs := hb.size
          clear hbad na nb
          go_wp2_with (at_builtin; refine wpList_append_own _ rfl _ _ 22 rfl w.heap.size 5 i0 (.int .u8 0) 1 1 Tryd.underlying22 hi hz0 hz1 hz2 rfl (by decide) _ _ _ rfl ((hown.alloc _)) ⟨wr.heap.size, 0, none⟩ 1 1 [.int .u8 (16 * (a : Int) + (b : Int))] rfl rfl ?c1 ?c2 ?c3 ?c4 ?c5 ?_)
          case c1 =>
            intro j u hj
            match j, hj with
            | 0, hj => cases hj; exact cell_of_row ((wr.drewN nq).alloc _) wr.heap.size 0 _ _ _ (heap_alloc_new (wr.drewN nq) _)
          case c2 => intro u hu; simp at hu; subst hu; rfl
          case c3 => unfold maxLen; omega
          case c4 => omega
          case c5 => simp; omega
          intro v' w3 hown3 hg3 _
          have hb3 := ((below_drewN hb nq).alloc (by simp; omega) _).grown hg3 (by simp; omega) (fun q hq => (hown.lt q hq).1)
          rw [hcast.out] at hown3
          have hown4 : Hid (w3.ownsRow w.heap.size 5 1 v' (l ++ [16 * a + b]).length (vals (l ++ [16 * a + b]))) := by
            show World.ownsRow _ _ _ _ _ _ _
            rw [← vals_append, List.length_append]; exact hown3
          have hke2 : Hid ((k + 2) % 2 = 0) := by have := hke.out; show _ = _; omega
          clear hown hb hg3 hown3 hll
          go_wp2
          go_roundw
          case rel => exact ⟨k + 2, l ++ [16 * a + b], by omega, by go_num, hke2, hnext, hown4.out, hb3⟩
          case measure => simp [intOf]; omega
      · have R8 : Hx.un xs = some l := by
          have e : xs.take k = xs := List.take_of_length_le (by have := hlen.out; omega)
          have := hl.out
          rwa [e] at this
        obtain ⟨a', cap', rfl, hby, _⟩ := owned_bytes hown rfl
        have hcv := conv_str wr a' l.length cap' l rfl hby
        obtain ⟨so, hso⟩ : ∃ so, Hid (str l = so) := ⟨_, rfl⟩
        rw [hso.out] at hcv
        have R9 := hidIt R8
        clear hown R8 hby ht
        go_wp2
        go_ret2
        exact ⟨(by unfold FHPost; rw [R9.out]; simp only; rw [hso.out]; rfl : FHPost _ _), hb⟩
  · have hun : Hid (Hx.un xs = none) := Hx.un_none _ xs (Nat.le_refl _) (.inl (by rw [← hlen.out]; exact hodd))
    have ht : ((s.size : Int) % 2 != 0) = true := by simp; omega
    clear hodd
    go_enter Tryd.func25, Tryd.ntmps25
    go_wp2
    go_ret2
    exact ⟨(by unfold FHPost; rw [hun.out]; rfl : FHPost _ _), Below.refl _ _⟩
end Go.Proofs.YtmaifngoffmjnaaDoor
