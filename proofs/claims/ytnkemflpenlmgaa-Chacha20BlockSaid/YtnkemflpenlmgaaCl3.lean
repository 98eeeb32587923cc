import Derived.Test.YtnkemflpenlmgaaCl2
namespace Go.Proofs.Ytnkemflpenlmgaa
open Go.RowKit
set_option maxRecDepth 100000 in
theorem twicelaw_walk (a1 a2 : Option Addr) (n1 c1 n2 c2 : Nat) (xs ys : List Nat) (w : World) (r1 : RowB w a1 n1 c1 xs) (r2 : RowB w a2 n2 c2 ys) :
    Calls Try.prog 10 #[.slice a1 n1 c1, .slice a2 n2 c2] w fun e w' => e = .returned (.bool true) ∧ Below w.heap.size w w' := by
  have R1 := hidIt r1
  have R2 := hidIt r2
  have l1 := r1.len
  have l2 := r2.len
  clear r1 r2
  by_cases hb : 300 < n1
  · have t1 : (300 : Int) < (n1 : Int) := by omega
    clear hb l1 l2
    go_enter Try.func10, Try.ntmps10
    go_wp2_with (fail)
    refine (awake_any _).mono ?_
    rintro e v1 ⟨rfl, hb1⟩
    go_wp2_with (fail)
    refine (awake_any _).mono ?_
    rintro e v2 ⟨rfl, hb2⟩
    have H := hidIt (below_then hb1 hb2)
    clear hb1 hb2
    go_wp2_with (fail)
    go_ret
    exact ⟨rfl, H.out⟩
  · have t1 : ¬ (300 : Int) < (n1 : Int) := by omega
    by_cases hne : n1 = n2
    · subst hne
      have k1 := hidIt (fun W h1 h2 => xor_ok a1 a2 n1 c1 n1 c2 xs ys l1 rfl R1.out.lt R2.out.lt l2.symm (by omega) W h1 h2)
      have k2 := hidIt (fun W h1 h2 => xor_ok a2 a1 n1 c2 n1 c1 ys xs l2 rfl R2.out.lt R1.out.lt l1.symm (by omega) W h1 h2)
      have k3 := hidIt (fun a c W h1 h2 => xor_ok a a2 n1 c n1 c2 (xo xs ys) ys (by rw [xo_len, l1]) rfl (xo_lt R1.out.lt R2.out.lt) R2.out.lt l2.symm (by omega) W h1 h2)
      rw [xo_comm (xs := ys) (ys := xs) (by omega)] at k2
      rw [xo_twice] at k3
      have hzl : Hid ((xo xs ys).length = n1) := by show _ = _; rw [xo_len, l1]
      have hxl := hidIt l1
      have sx : Hid (Bytes w a1 xs) := R1.out.bytes
      clear l1 l2 hb
      obtain ⟨zs, hzs⟩ : ∃ zs, Hid (xo xs ys = zs) := ⟨_, rfl⟩
      rw [hzs.out] at k1 k2 k3 hzl
      obtain ⟨sz, hsz⟩ : ∃ sz, Hid (str zs = sz) := ⟨_, rfl⟩
      obtain ⟨so, hso⟩ : ∃ so, Hid (str xs = so) := ⟨_, rfl⟩
      go_enter Try.func10, Try.ntmps10
      go_wp2_with (fail)
      refine (awake_any _).mono ?_
      rintro e v1 ⟨rfl, hb1⟩
      have H1 := hidIt hb1
      clear hb1
      go_wp2_with (fail)
      refine (k1.out _ (R1.out.bytes.below H1.out) (R2.out.bytes.below H1.out)).mono ?_
      rintro e v2 ⟨rfl, hby2, hb2⟩
      have H2 := hidIt (below_then H1.out hb2)
      have B2 := hidIt hby2
      clear hb2 hby2
      generalize v1.heap.size = g1 at *
      go_wp2_with (fail)
      refine (k2.out _ (R2.out.bytes.below H2.out) (R1.out.bytes.below H2.out)).mono ?_
      rintro e v3 ⟨rfl, hby3, hb3⟩
      have H3 := hidIt (below_then H2.out hb3)
      have B23 := hidIt (B2.out.below hb3)
      have B3 := hidIt hby3
      clear hb3 hby3 B2
      generalize v2.heap.size = g2 at *
      go_wp2_with (fail)
      refine (k3.out _ n1 _ B23.out (R2.out.bytes.below H3.out)).mono ?_
      rintro e v4 ⟨rfl, hby4, hb4⟩
      have H4 := hidIt (below_then H3.out hb4)
      have cv1 := conv_str v4 _ n1 n1 zs hzl.out.symm (B23.out.below hb4)
      have cv2 := conv_str v4 _ n1 n1 zs hzl.out.symm (B3.out.below hb4)
      have cv3 := conv_str v4 _ n1 n1 xs hxl.out hby4
      have cv4 := conv_str v4 _ n1 c1 xs hxl.out (sx.out.below H4.out)
      rw [hsz.out] at cv1 cv2
      rw [hso.out] at cv3 cv4
      clear hb4 hby4 B23 B3 H1 H2 H3
      generalize v3.heap.size = g3 at *
      go_wp2_with (fail)
      go_ret
      exact ⟨rfl, H4.out⟩
    · have t2 : ((n1 : Int) != (n2 : Int)) = true := by simp; omega
      have t3 : ¬ (n1 : Int) = (n2 : Int) := by omega
      clear hb l1 l2 hne
      go_enter Try.func10, Try.ntmps10
      go_wp2_with (fail)
      refine (awake_any _).mono ?_
      rintro e v1 ⟨rfl, hb1⟩
      go_wp2_with (fail)
      refine (awake_any _).mono ?_
      rintro e v2 ⟨rfl, hb2⟩
      have H := hidIt (below_then hb1 hb2)
      clear hb1 hb2
      go_wp2_with (fail)
      go_ret
      exact ⟨rfl, H.out⟩
end Go.Proofs.Ytnkemflpenlmgaa
