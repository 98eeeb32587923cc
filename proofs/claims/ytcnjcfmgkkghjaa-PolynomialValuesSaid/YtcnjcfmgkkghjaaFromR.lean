import Derived.Test.YtcnjcfmgkkghjaaInter2
namespace Go.Proofs.Ytcnjcfmgkkghjaa
open Go.RowKit
/-- the world in a round of FromRoots -/
structure FrR (w W : World) (a2 aX : Option Addr) (B X : List Nat) : Prop where
  b : Bytes W a2 B
  x : Bytes W aX X
  bel : Below w.heap.size w W
theorem FrR.next {w W W' : World} {a2 aX : Option Addr} {B X : List Nat} (h : FrR w W a2 aX B X) (hb : Below W.heap.size W W') : FrR w W' a2 aX B X := ⟨h.b.below hb, h.x.below hb, h.bel.trans (hb.mono h.bel.size)⟩
set_option maxRecDepth 100000 in
theorem fromroots_any (aX : Option Addr) (n cX : Nat) (X : List Nat) (hn : n = X.length) (hX : ∀ i, X.getD i 0 < 256) (hbig : n ≤ 1000) (w : World) (h1 : Bytes w aX X) :
    Calls Try.prog 10 #[.slice aX n cX] w fun e w' => (∃ a c, e = .returned (.tuple #[.slice a (n + 1) c, .int .i64 0]) ∧ Bytes w' a (ipL X [] n).2) ∧ Below w.heap.size w w' := by
  have n1 := hidIt hn
  have x2 := hidIt hX
  have i1 := hidIt h1
  have nb := hidIt hbig
  have t0 : ¬ (1023 : Int) < (n : Int) := by omega
  clear hn hX h1 hbig
  go_enter Try.func10, Try.ntmps10
  go_wp2_with (fail)
  have st0 : Hid (FrR w (w.alloc (.cells #[.int .u8 1] 5)) (some ⟨w.heap.size, 0, none⟩) aX [1] X) := by
    have e2 : Below w.heap.size w (w.alloc (.cells #[.int .u8 1] 5)) := (Below.refl _ w).alloc (Nat.le_refl _) _
    exact ⟨bytes_lit w [1] #[.int .u8 1] 5 rfl, i1.out.below e2, e2⟩
  go_loopw [13, 4, 6] (fun i b _ wr => ∃ (k : Nat) (a2 : Option Addr) (c2 : Nat), k ≤ n ∧ i = .int .i64 k ∧ b = .slice a2 (k + 1) c2 ∧ Hid (FrR w wr a2 aX (ipL X [] k).2 X)) (fun i _ _ _ => n - (intOf i).toNat)
  case atStart => exact ⟨0, _, 1, by omega, rfl, rfl, st0.out⟩
  case round =>
    obtain ⟨k, a2, c2, hk, rfl, rfl, hR⟩ := hrel
    clear st0
    by_cases hlt : k < n
    · obtain ⟨bx, ox, rfl, e1⟩ := hR.out.x k (by have := n1.out; omega)
      obtain ⟨x, hx⟩ : ∃ x, Hid (X.getD k 0 = x) := ⟨_, rfl⟩
      rw [hx.out] at e1
      have xb : x < 256 := by rw [← hx.out]; exact x2.out k
      obtain ⟨B, hB⟩ : ∃ B, Hid (B = (ipL X [] k).2) := ⟨_, rfl⟩
      have hBl : Hid (k + 1 = B.length) := by show _ = _; rw [hB.out]; exact (ipL_len2 X [] k).symm
      have hBb : Hid (∀ i, B.getD i 0 < 256) := by show ∀ i, _; rw [hB.out]; exact (ipL_lt X [] k).2
      have hR1 : Hid (FrR w wr a2 (some ⟨bx, ox, none⟩) B X) := by show FrR _ _ _ _ _ _; rw [hB.out]; exact hR.out
      have kb : k + 1 ≤ 1001 := by have := nb.out; omega
      have hlt2 : (k : Int) < (n : Int) := by omega
      clear hR
      go_wp2_with (fail)
      refine (timesRoot_any (x : Int) _).mono ?_
      rintro e w13 ⟨rfl, rfl⟩
      have hba : Hid (Below wr.heap.size wr (wr.alloc (.cells #[.int .u8 (x : Int)] 5))) := (Below.refl _ _).alloc (Nat.le_refl _) _
      have hcell : Hid ((wr.alloc (.cells #[.int .u8 (x : Int)] 5)).cell? ⟨wr.heap.size, 0, none⟩ = some (.int .u8 (x : Int))) := by show _ = _; rw [(Blk.new wr 5 #[.int .u8 (x : Int)]).cell]; rfl
      have hR12 := hidIt (hR1.out.next hba.out)
      go_wp2_with (fail)
      refine (timesRoot1_any a2 (k + 1) c2 x wr.heap.size B hBl.out (by omega) hBb.out xb (by omega) _ hR12.out.b hcell.out).mono ?_
      rintro e w14 ⟨⟨v14, rfl, hm14⟩, hb14⟩
      obtain ⟨g14, rfl, _, _, hby14⟩ := hm14.at (k + 1 + 1) (by rw [root_len, ← hBl.out])
      have hR13 := hidIt (hR12.out.next hb14)
      have hB2 := hidIt hby14
      clear hm14 hby14 hb14
      go_wp2_with (fail)
      go_roundw
      case rel =>
        refine ⟨k + 1, _, k + 1 + 1, by omega, by go_num, rfl, ?_⟩
        show FrR _ _ _ _ (root _ _) _
        rw [← hB.out, hx.out]
        exact ⟨hB2.out, hR13.out.x, hR13.out.bel⟩
      case measure => simp [intOf]; omega
    · obtain rfl : k = n := by omega
      have t1 : ¬ (k : Int) < (k : Int) := by omega
      go_wp2
      go_ret2
      exact ⟨⟨_, ⟨_, rfl⟩, hR.out.b⟩, hR.out.bel⟩
end Go.Proofs.Ytcnjcfmgkkghjaa
