import Derived.Test.YtnkemflpenlmgaaXr2
namespace Go.Proofs.Ytnkemflpenlmgaa
open Go.RowKit
theorem str_beq_self (s : ByteArray) : (s.toList == s.toList) = true := by simp
set_option maxRecDepth 100000 in
theorem xorlaw_walk (a1 a2 : Option Addr) (n1 c1 n2 c2 : Nat) (xs ys : List Nat) (w : World) (r1 : RowB w a1 n1 c1 xs) (r2 : RowB w a2 n2 c2 ys) :
    Calls Try.prog 9 #[.slice a1 n1 c1, .slice a2 n2 c2] w fun e w' => e = .returned (.bool true) ∧ Below w.heap.size w w' := by
  have R1 := hidIt r1
  have R2 := hidIt r2
  have l1 := r1.len
  have l2 := r2.len
  clear r1 r2
  by_cases hb : 300 < n1 ∨ 300 < n2
  · replace hb := hidIt hb
    have hcs : Hid (300 < n1 ∨ (¬ 300 < n1 ∧ 300 < n2)) := by have := hb.out; show _ ∨ _; omega
    clear hb l1 l2
    rcases hcs.out with h | ⟨h, h'⟩
    · have t1 : (300 : Int) < (n1 : Int) := by omega
      clear hcs h
      go_enter Try.func9, Try.ntmps9
      go_wp2_with (fail)
      refine (awake_any _).mono ?_
      rintro e v1 ⟨rfl, hb1⟩
      go_wp2_with (fail)
      refine (awake_any _).mono ?_
      rintro e v2 ⟨rfl, hb2⟩
      have H := hidIt (below_then hb1 hb2)
      clear hb1 hb2
      go_wp2_with (fail)
      go_ret
      exact ⟨rfl, H.out⟩
    · have t1 : ¬ (300 : Int) < (n1 : Int) := by omega
      have t2 : (300 : Int) < (n2 : Int) := by omega
      clear hcs h h'
      go_enter Try.func9, Try.ntmps9
      go_wp2_with (fail)
      refine (awake_any _).mono ?_
      rintro e v1 ⟨rfl, hb1⟩
      go_wp2_with (fail)
      refine (awake_any _).mono ?_
      rintro e v2 ⟨rfl, hb2⟩
      have H := hidIt (below_then hb1 hb2)
      clear hb1 hb2
      go_wp2_with (fail)
      go_ret
      exact ⟨rfl, H.out⟩
  · have t1 : ¬ (300 : Int) < (n1 : Int) := by omega
    have t2 : ¬ (300 : Int) < (n2 : Int) := by omega
    have hb1' : Hid (n1 ≤ 300) := by show _ ≤ _; omega
    clear hb
    by_cases hne : n1 = n2
    · subst hne
      have k1 := fun W h1 h2 => xor_ok a1 a2 n1 c1 n1 c2 xs ys l1 rfl R1.out.lt R2.out.lt l2.symm (by have := hb1'.out; omega) W h1 h2
      have k2 := fun W h1 h2 => refxor_ok a1 a2 n1 c1 n1 c2 xs ys l1 rfl R1.out.lt R2.out.lt l2.symm hb1'.out W h1 h2
      have hzl : Hid ((xo xs ys).length = n1) := by show _ = _; rw [xo_len, l1]
      replace k1 := hidIt k1
      replace k2 := hidIt k2
      clear l1 l2
      obtain ⟨zs, hzs⟩ : ∃ zs, Hid (xo xs ys = zs) := ⟨_, rfl⟩
      rw [hzs.out] at k1 k2 hzl
      obtain ⟨sz, hsz⟩ : ∃ sz, Hid (str zs = sz) := ⟨_, rfl⟩
      go_enter Try.func9, Try.ntmps9
      go_wp2_with (fail)
      refine (awake_any _).mono ?_
      rintro e v1 ⟨rfl, hb1⟩
      have H1 := hidIt hb1
      clear hb1
      go_wp2_with (fail)
      refine (k1.out _ (R1.out.bytes.below H1.out) (R2.out.bytes.below H1.out)).mono ?_
      rintro e v2 ⟨rfl, hby2, hb2⟩
      have H2 := hidIt (below_then H1.out hb2)
      have B2 := hidIt hby2
      clear hb2 hby2
      go_wp2_with (fail)
      refine (k2.out _ (R1.out.bytes.below H2.out) (R2.out.bytes.below H2.out)).mono ?_
      rintro e v3 ⟨⟨a3, c3, rfl, hby3, _⟩, hb3⟩
      have H3 := hidIt (below_then H2.out hb3)
      have B3 := hidIt (B2.out.below hb3)
      have cv1 := conv_str v3 _ n1 n1 zs hzl.out.symm B3.out
      have cv2 := conv_str v3 a3 zs.length c3 zs rfl hby3
      rw [hsz.out] at cv1 cv2
      have hse := str_beq_self sz
      clear hb3 hby3 B2 B3 H1 H2
      go_wp2_with (fail)
      go_ret
      exact ⟨rfl, H3.out⟩
    · have k1 := fun W => xor_err a1 a2 n1 c1 n2 c2 hne W
      have k2 := fun W => refxor_err a1 a2 n1 c1 n2 c2 hne W
      clear l1 l2 hne
      go_enter Try.func9, Try.ntmps9
      go_wp2_with (fail)
      refine (awake_any _).mono ?_
      rintro e v1 ⟨rfl, hb1⟩
      have H1 := hidIt hb1
      clear hb1
      go_wp2_with (fail)
      refine (k1 _).mono ?_
      rintro e v2 ⟨rfl, rfl⟩
      go_wp2_with (fail)
      refine (k2 _).mono ?_
      rintro e v2 ⟨rfl, rfl⟩
      have cv := conv_str v1 none 0 0 [] rfl (fun i hi => by cases hi)
      go_wp2_with (fail)
      go_ret
      exact ⟨rfl, H1.out⟩
end Go.Proofs.Ytnkemflpenlmgaa
