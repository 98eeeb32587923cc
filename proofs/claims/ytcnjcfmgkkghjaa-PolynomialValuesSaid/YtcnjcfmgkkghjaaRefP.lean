import Derived.Test.YtcnjcfmgkkghjaaRefM
namespace Go.Proofs.Ytcnjcfmgkkghjaa
open Go.RowKit
theorem fn_succ (f : Nat → Nat) (k : Nat) : Pl.fn f k ++ [f k] = Pl.fn f (k + 1) := by simp [Pl.fn, List.range_succ]
set_option maxRecDepth 100000 in
set_option maxHeartbeats 1000000 in
theorem refadd_any (a1 a2 : Option Addr) (n1 n2 c1 c2 : Nat) (xs ys : List Nat) (hx : ∀ i, xs.getD i 0 < 256) (hy : ∀ i, ys.getD i 0 < 256) (hb1 : n1 ≤ 1000) (hb2 : n2 ≤ 1000) (w : World) (h1 : Rd w a1 n1 c1 xs) (h2 : Rd w a2 n2 c2 ys) :
    Calls Try.prog 50 #[.slice a1 n1 c1, .slice a2 n2 c2] w fun e w' => (∃ a' m' c', e = .returned (.slice a' m' c') ∧ Rd w' a' m' c' (Pl.trim (plus xs ys))) ∧ Below w.heap.size w w' := by
  obtain ⟨D, hD⟩ : ∃ D, Hid (D = max n1 n2) := ⟨_, rfl⟩
  obtain ⟨F, hF⟩ : ∃ F : Nat → Nat, Hid (∀ i, F i = Pl.co xs i ^^^ Pl.co ys i) := ⟨_, fun _ => rfl⟩
  have hpl : Hid (plus xs ys = Pl.fn F D) := by
    show _ = _
    have e : (fun i => Pl.co xs i ^^^ Pl.co ys i) = F := funext (fun i => (hF.out i).symm)
    unfold plus
    rw [e, hD.out, h1.len, h2.len]
  have r1 := hidIt h1
  have r2 := hidIt h2
  have x2 := hidIt hx
  have y2 := hidIt hy
  clear h1 h2 hx hy
  go_enter Try.func50, Try.ntmps50
  go_wp2_with (fail)
  go_loopw [6, 5] (fun i v wr => ∃ k : Nat, k ≤ D ∧ i = .int .i64 k ∧ Hid (wr.ownsRow w.heap.size 5 1 v k (vals (Pl.fn F k))) ∧ Hid (Below w.heap.size w wr)) (fun i _ _ => D - (intOf i).toNat)
  case atStart => exact ⟨0, by omega, rfl, World.ownsRow_nil _ _ _ _, Below.refl _ _⟩
  case round =>
    obtain ⟨k, hk, rfl, hown, hb⟩ := hrel
    obtain ⟨a', c', rfl, hrd⟩ := own_rd hown.out (Pl.fn_len F k).symm
    have hrd' := hidIt hrd
    clear hrd
    by_cases hlt : k < D
    · obtain ⟨u, hu⟩ : ∃ u, Hid (Pl.co xs k = u) := ⟨_, rfl⟩
      obtain ⟨v, hv⟩ : ∃ v, Hid (Pl.co ys k = v) := ⟨_, rfl⟩
      have ub : u < 256 := by rw [← hu.out]; exact x2.out k
      have vb : v < 256 := by rw [← hv.out]; exact y2.out k
      have hxor : bits BinOp.xor IntKind.u8 (u : Int) (v : Int) = ((F k : Nat) : Int) := by rw [u8_xor_nat _ _ ub vb, hF.out, hu.out, hv.out]
      have hkb : Hid (k + 1 ≤ 140737488355328) := by have := hD.out; show _ ≤ _; omega
      by_cases hl1 : k < n1
      · have t1 : (k : Int) < (n1 : Int) := by omega
        go_wp2_with (fail)
        refine (refat_any a1 n1 c1 k xs _ (r1.out.below hb.out) u hu.out).mono ?_
        rintro e w2 ⟨rfl, rfl⟩
        go_wp2_with (fail)
        refine (refat_any a2 n2 c2 k ys _ (r2.out.below hb.out) v hv.out).mono ?_
        rintro e w2 ⟨rfl, rfl⟩
        go_wp2_with (at_builtin; refine wpList_append_byte w wr rfl _ _ rfl (.slice a' k c') k (Pl.fn F k) rfl (Pl.fn_len F k).symm hown.out _ (F k) rfl rfl hkb.out hb.out ?_)
        intro a6 c6 w6 hown6 hb6
        rw [fn_succ] at hown6
        have hown7 := hidIt hown6
        have hb7 := hidIt hb6
        clear hown6 hb6
        go_wp2
        go_roundw
        case rel => exact ⟨k + 1, by omega, by go_num, hown7.out, hb7.out⟩
        case measure => simp [intOf]; omega
      · have t1 : (n1 : Int) ≤ (k : Int) := by omega
        have t2 : (k : Int) < (n2 : Int) := by have := hD.out; omega
        go_wp2_with (fail)
        refine (refat_any a1 n1 c1 k xs _ (r1.out.below hb.out) u hu.out).mono ?_
        rintro e w2 ⟨rfl, rfl⟩
        go_wp2_with (fail)
        refine (refat_any a2 n2 c2 k ys _ (r2.out.below hb.out) v hv.out).mono ?_
        rintro e w2 ⟨rfl, rfl⟩
        go_wp2_with (at_builtin; refine wpList_append_byte w wr rfl _ _ rfl (.slice a' k c') k (Pl.fn F k) rfl (Pl.fn_len F k).symm hown.out _ (F k) rfl rfl hkb.out hb.out ?_)
        intro a6 c6 w6 hown6 hb6
        rw [fn_succ] at hown6
        have hown7 := hidIt hown6
        have hb7 := hidIt hb6
        clear hown6 hb6
        go_wp2
        go_roundw
        case rel => exact ⟨k + 1, by omega, by go_num, hown7.out, hb7.out⟩
        case measure => simp [intOf]; omega
    · obtain rfl : k = D := by omega
      have t1 : (n1 : Int) ≤ (k : Int) := by have := hD.out; omega
      have t2 : (n2 : Int) ≤ (k : Int) := by have := hD.out; omega
      have kb : k ≤ 100000 := by have := hD.out; omega
      have hlt' : Hid (∀ i, (Pl.fn F k).getD i 0 < 256) := fn_lt (fun i => by rw [hF.out]; exact Gf.xor_lt (x2.out i) (y2.out i)) k
      go_wp2_with (fail)
      refine (reftrim_any a' k c' (Pl.fn F k) hlt'.out kb _ hrd'.out).mono ?_
      rintro e w2 ⟨⟨a3, m3, c3, rfl, hr3⟩, hb3⟩
      have hr3' := hidIt hr3
      have hb4 := hidIt (hb.out.trans (hb3.mono hb.out.size))
      clear hr3 hb3
      go_wp2
      go_ret
      exact ⟨⟨_, _, _, rfl, by rw [hpl.out]; exact hr3'.out⟩, hb4.out⟩
end Go.Proofs.Ytcnjcfmgkkghjaa
