import Derived.Test.YtcnjcfmgkkghjaaRefIp
import Derived.Test.YtcnjcfmgkkghjaaRoots
import Derived.Test.YtcnjcfmgkkghjaaFactors
import Derived.Test.YtcnjcfmgkkghjaaRefDiv
namespace Go.Proofs.Ytcnjcfmgkkghjaa
open Go.RowKit
theorem pw_zero_pos {i : Nat} (h : 0 < i) : Gf.pw 0 i = 0 := by
  obtain ⟨k, rfl⟩ : ∃ k, i = k + 1 := ⟨i - 1, by omega⟩
  show Gf.mul _ 0 = 0
  exact Gf.mul_zero _
set_option maxRecDepth 100000 in
theorem refpowz_any (a i z : Nat) (ha : a < 256) (hi : i < 200) (hz : Gf.pw a i = z) (w : World) :
    Calls Try.prog 42 #[.int .u8 a, .int .i64 (i : Int)] w fun e w' => e = .returned (.int .u8 (z : Int)) ∧ w = w' := by
  have hz' := hidIt hz
  clear hz
  by_cases h0 : a = 0
  · subst h0
    by_cases hi0 : i = 0
    · subst hi0
      have hz1 : z = 1 := hz'.out.symm
      subst hz1
      go_enter Try.func42, Try.ntmps42
      go_wp2
      go_ret
      exact ⟨rfl, rfl⟩
    · have hz0 : z = 0 := by rw [← hz'.out]; exact pw_zero_pos (by omega)
      subst hz0
      have t : ((i : Int) == 0) = false := by simp; omega
      have t2 : ¬ (i : Int) = 0 := by omega
      go_enter Try.func42, Try.ntmps42
      go_wp2
      go_ret
      exact ⟨rfl, rfl⟩
  · have hae : ((a : Int) == 0) = false := by simp; omega
    have t1 : Int.tmod (i : Int) 255 = (i : Int) := by rw [Int.tmod_eq_emod_of_nonneg (by omega)]; omega
    have t2 : Int.tmod ((i : Int) + 255) 255 = (i : Int) := by rw [Int.tmod_eq_emod_of_nonneg (by omega)]; omega
    have t3 : IntKind.i64.wrap ((i : Int) + 255) = (i : Int) + 255 := IntWalk.i64_in _ (by omega)
    clear h0
    go_enter Try.func42, Try.ntmps42
    go_wp2
    go_loop [5, 1] (fun p e => ∃ k r : Nat, k + r = i ∧ e = .int .i64 (r : Int) ∧ p = .int .u8 (Gf.pw a k)) (fun _ e => (intOf e).toNat)
    case atStart => exact ⟨0, i, by omega, rfl, rfl⟩
    case round =>
      obtain ⟨k, r, hk, rfl, rfl⟩ := hrel
      have hl := Gf.pw_lt a k
      by_cases hlt : 0 < r
      · have hz : (0 : Int) < (r : Int) := by omega
        obtain ⟨q, hq⟩ : ∃ q, Hid (q + 1 = r) := ⟨r - 1, by show _ = _; omega⟩
        have e1 : (r : Int) - 1 = (q : Int) := by have := hq.out; omega
        have e2 : IntKind.i64.wrap (q : Int) = (q : Int) := IntWalk.i64_in _ (by have := hq.out; omega)
        go_wp2_with (go_at_call 41; refine (refmul_any _ _ hl ha _).mono ?_; rintro e w' ⟨rfl, rfl⟩)
        go_round
        case rel => exact ⟨k + 1, q, by have := hq.out; omega, rfl, rfl⟩
        case measure => simp [intOf]; have := hq.out; omega
      · have hz : ¬ (0 : Int) < (r : Int) := by omega
        obtain rfl : k = i := by omega
        go_wp2
        go_ret
        exact ⟨by rw [hz'.out]; rfl, rfl⟩
set_option maxRecDepth 100000 in
theorem refeval_any (a : Option Addr) (n c x : Nat) (xs : List Nat) (hn : n = xs.length) (hx : ∀ i, xs.getD i 0 < 256) (hxb : x < 256) (hbig : n ≤ 100) (g : Nat) (hg : Pl.hor x xs = g) (w : World) (h : Bytes w a xs) :
    Calls Try.prog 14 #[.slice a n c, .int .u8 x] w fun e w' => e = .returned (.int .u8 (g : Int)) ∧ Below w.heap.size w w' := by
  have n2 := hidIt hn
  have x2 := hidIt hx
  have i2 := hidIt h
  have g2 := hidIt hg
  obtain ⟨P, hP⟩ : ∃ P : Nat → Nat, Hid (P = Pl.S (fun i => Gf.mul (Pl.co xs i) (Gf.pw x i))) := ⟨_, rfl⟩
  have hPb : Hid (∀ k, P k < 256) := by show ∀ k, _; rw [hP.out]; exact fun k => Pl.S_lt (fun i _ => Gf.mul_lt _ (hx i))
  have hPn : Hid (∀ k, P (k + 1) = P k ^^^ Gf.mul (Pl.co xs k) (Gf.pw x k)) := by show ∀ k, _; rw [hP.out]; exact fun k => rfl
  have hPe : Hid (P n = g) := by show _ = _; rw [hP.out, ← hg, Pl.hor_ev hxb xs (ok_of hx), hn]; rfl
  have hP0 : Hid (P 0 = 0) := by show _ = _; rw [hP.out]; rfl
  clear hn hx h hg
  go_enter Try.func14, Try.ntmps14
  go_wp2_with (fail)
  go_loopw [9, 5, 6] (fun i v _ wr => ∃ k p : Nat, k ≤ n ∧ i = .int .i64 (k : Int) ∧ v = .int .u8 (p : Int) ∧ p < 256 ∧ Hid (p = P k) ∧ Hid (Below w.heap.size w wr)) (fun i _ _ _ => n - (intOf i).toNat)
  case atStart => exact ⟨0, 0, by omega, rfl, rfl, by omega, hP0.out.symm, Below.refl _ _⟩
  case round =>
    obtain ⟨k, p, hk, rfl, rfl, pb, hp, hb⟩ := hrel
    by_cases hlt : k < n
    · have t1 : (k : Int) < (n : Int) := by omega
      obtain ⟨y, hy⟩ : ∃ y, Hid (xs.getD k 0 = y) := ⟨_, rfl⟩
      obtain ⟨bb, ob, rfl, e1⟩ := (i2.out.below hb.out) k (by have := n2.out; omega)
      rw [hy.out] at e1
      have yb : y < 256 := by rw [← hy.out]; exact x2.out k
      obtain ⟨u, hu⟩ : ∃ u, Hid (Gf.pw x k = u) := ⟨_, rfl⟩
      have ub : u < 256 := by rw [← hu.out]; exact Gf.pw_lt _ _
      obtain ⟨z, hz⟩ : ∃ z, Hid (Gf.mul y u = z) := ⟨_, rfl⟩
      have zb : z < 256 := by rw [← hz.out]; exact Gf.mul_lt _ yb
      have hxor : bits BinOp.xor IntKind.u8 (p : Int) (z : Int) = ((p ^^^ z : Nat) : Int) := u8_xor_nat _ _ pb zb
      have hk200 : k < 200 := by omega
      have hnx : Hid (p ^^^ z = P (k + 1)) := by show _ = _; rw [hPn.out, show Pl.co xs k = y from hy.out, hu.out, hz.out, hp.out]
      have hb3 := hidIt hb.out
      clear hb
      go_wp2_with (fail)
      go_quiet (first | (go_at_call 42; exact Calls.quiet_of_same ((refpowz_any x k u hxb hk200 hu.out _).mono fun _ _ z => ⟨z.1, z.2.symm⟩)) | (go_at_call 41; exact Calls.quiet_of_same ((refmulz_any y u z yb ub hz.out _).mono fun _ _ z => ⟨z.1, z.2.symm⟩)))
      go_wp2_with (fail)
      go_roundw
      case rel => exact ⟨k + 1, p ^^^ z, by omega, by go_num, rfl, Gf.xor_lt pb zb, hnx.out, below_drewN hb3.out _⟩
      case measure => simp [intOf]; omega
    · obtain rfl : k = n := by omega
      have t1 : ¬ (k : Int) < (k : Int) := by omega
      go_wp2
      go_ret
      exact ⟨by rw [hp.out, hPe.out]; rfl, hb.out⟩
set_option maxRecDepth 100000 in
theorem refroots_any (a : Option Addr) (n c : Nat) (xs : List Nat) (hn : n = xs.length) (hx : ∀ i, xs.getD i 0 < 256) (hbig : n ≤ 100) (w : World) (h : Bytes w a xs) :
    Calls Try.prog 20 #[.slice a n c] w fun e w' => (∃ a' n' c', e = .returned (.slice a' n' c') ∧ n' = (rootsL xs 256).length ∧ Bytes w' a' (rootsL xs 256)) ∧ Below w.heap.size w w' := by
  have n2 := hidIt hn
  have x2 := hidIt hx
  have i2 := hidIt h
  clear hn hx h
  go_enter Try.func20, Try.ntmps20
  go_wp2_with (fail)
  go_loopw [4, 3] (fun i v wr => ∃ (k m : Nat) (a' : Option Addr) (c' : Nat), k ≤ 256 ∧ i = .int .i64 k ∧ v = .slice a' m c' ∧ Hid (m = (rootsL xs k).length) ∧ Hid (wr.ownsRow w.heap.size 5 1 (.slice a' m c') m (vals (rootsL xs k))) ∧ Hid (Below w.heap.size w wr)) (fun i _ _ => 256 - (intOf i).toNat)
  case atStart => exact ⟨0, 0, none, 0, by omega, rfl, rfl, rfl, World.ownsRow_nil _ _ _ _, Below.refl _ _⟩
  case round =>
    obtain ⟨k, m, a', c', hk, rfl, rfl, hm, hown, hb⟩ := hrel
    by_cases hlt : k < 256
    · have hw : IntKind.u8.wrap (k : Int) = (k : Int) := by rw [IntKind.wrap_u8]; omega
      have hlt2 : (k : Int) < 256 := by omega
      obtain ⟨y, hy⟩ : ∃ y, Hid (Pl.hor k xs = y) := ⟨_, rfl⟩
      go_wp2_with (fail)
      refine (refeval_any _ _ _ k xs n2.out x2.out hlt hbig y hy.out wr (i2.out.below hb.out)).mono ?_
      rintro e w2 ⟨rfl, hb2⟩
      have hown2 := hidIt (own_belowP hown.out hb2)
      have hbw2 := hidIt (hb.out.trans (hb2.mono hb.out.size))
      clear hb2 hown hb
      by_cases hy0 : y = 0
      · subst hy0
        have hml : Hid (m + 1 ≤ 140737488355328) := by have := hm.out; have := rootsL_len xs k; show _ ≤ _; omega
        go_wp2_with (at_builtin; refine wpList_append_byte w w2 rfl _ _ rfl (.slice a' m c') m (rootsL xs k) rfl hm.out hown2.out _ k rfl rfl hml.out hbw2.out ?_)
        intro a6 c6 w6 hown6 hb6
        have hs : rootsL xs k ++ [k] = rootsL xs (k + 1) := by rw [rootsL_succ, hy.out, if_pos rfl]
        rw [hs] at hown6
        have hown7 := hidIt hown6
        have hb7 := hidIt hb6
        have hm7 : Hid (m + 1 = (rootsL xs (k + 1)).length) := by show _ = _; rw [← hs, List.length_append, ← hm.out]; rfl
        clear hown6 hb6 hs
        go_wp2
        go_roundw
        case rel => exact ⟨k + 1, m + 1, a6, c6, by omega, by go_num, rfl, hm7.out, hown7.out, hb7.out⟩
        case measure => simp [intOf]; omega
      · have hne : ((y : Int) == 0) = false := by simp; omega
        have hs : rootsL xs (k + 1) = rootsL xs k := by rw [rootsL_succ, hy.out, if_neg hy0, List.append_nil]
        have hown7 : Hid (w2.ownsRow w.heap.size 5 1 (.slice a' m c') m (vals (rootsL xs (k + 1)))) := by show World.ownsRow _ _ _ _ _ _ _; rw [hs]; exact hown2.out
        have hm7 : Hid (m = (rootsL xs (k + 1)).length) := by show _ = _; rw [hs]; exact hm.out
        clear hs
        go_wp2
        go_roundw
        case rel => exact ⟨k + 1, m, a', c', by omega, by go_num, rfl, hm7.out, hown7.out, hbw2.out⟩
        case measure => simp [intOf]; omega
    · obtain rfl : k = 256 := by omega
      go_wp2
      go_ret
      obtain ⟨a2, c2, hv, hby, _⟩ := owned_bytes hown.out hm.out
      refine ⟨⟨_, _, _, rfl, hm.out, ?_⟩, hb.out⟩
      cases hv
      exact hby
theorem der_short (xs : List Nat) : Pl.trim (Pl.fn (dfn (Pl.co xs)) (xs.length - 1)) = Pl.trim (der xs) := by
  refine Pl.trim_congr (fun i => ?_)
  rw [der_co, Pl.fn_co]
  by_cases h : i < xs.length - 1
  · rw [if_pos h]
  · rw [if_neg h]
    unfold dfn
    rw [Pl.co_out (p := xs) (by omega)]; simp
theorem times_root {B : List Nat} {r : Nat} (hr : r < 256) (hB : ∀ i, B.getD i 0 < 256) (hl : B.length ≤ 60) (hn : Pl.Nf (root r B)) : timesT B [r, 1] = root r B := by
  have h2 := lt_two hr (show 1 < 256 by decide)
  refine Pl.nf_ext (timesT_nf hB h2) hn (co_eq_of_values (timesT_lt hB) (root_lt hB) ?_ (by rw [root_len]; omega) (fun y hy => ?_))
  · exact Nat.le_trans (timesT_len2 (m := 1) _ _ hl (Nat.le_refl _)) (by decide)
  · rw [ring_ev_mul hy hB h2, hor_lin hy, hor_root hy hr hB]
theorem ipL_next (X : List Nat) (hX : ∀ i, X.getD i 0 < 256) (k : Nat) (hk : k ≤ 50) : timesT (ipL X [] k).2 [X.getD k 0, 1] = (ipL X [] (k + 1)).2 := by
  have hl := ipL_len2 X [] k
  refine times_root (hX k) (ipL_lt X [] k).2 (by omega) ?_
  have h1 : Pl.d1 (ipL X [] (k + 1)).2 = (ipL X [] (k + 1)).2.length := by rw [ipL_d1, ipL_len2]
  exact h1
set_option maxRecDepth 100000 in
theorem reffrom_any (a : Option Addr) (n c : Nat) (xs : List Nat) (hn : n = xs.length) (hx : ∀ i, xs.getD i 0 < 256) (hbig : n ≤ 45) (w : World) (h : Bytes w a xs) :
    Calls Try.prog 18 #[.slice a n c] w fun e w' => (∃ a' m' c', e = .returned (.slice a' m' c') ∧ Rd w' a' m' c' (ipL xs [] n).2) ∧ Below w.heap.size w w' := by
  have n2 := hidIt hn
  have x2 := hidIt hx
  have i2 := hidIt h
  have nb := hidIt hbig
  clear hn hx h hbig
  go_enter Try.func18, Try.ntmps18
  go_wp2_with (fail)
  have st : Hid (Rd (w.alloc (.cells #[.int .u8 1] 5)) (some ⟨w.heap.size, 0, none⟩) 1 1 (ipL xs [] 0).2) := rd_new w [1] 1 rfl
  have sb : Hid (Below w.heap.size w (w.alloc (.cells #[.int .u8 1] 5))) := (Below.refl _ _).alloc (Nat.le_refl _) _
  go_loopw [9, 3, 5] (fun i v _ wr => ∃ (k m : Nat) (a' : Option Addr) (c' : Nat), k ≤ n ∧ i = .int .i64 (k : Int) ∧ v = .slice a' m c' ∧ Hid (Rd wr a' m c' (ipL xs [] k).2) ∧ Hid (Below w.heap.size w wr)) (fun i _ _ _ => n - (intOf i).toNat)
  case atStart => exact ⟨0, 1, _, 1, by omega, rfl, rfl, st.out, sb.out⟩
  case round =>
    clear st sb
    obtain ⟨k, m, a', c', hk, rfl, rfl, hR, hb⟩ := hrel
    by_cases hlt : k < n
    · have t1 : (k : Int) < (n : Int) := by omega
      obtain ⟨y, hy⟩ : ∃ y, Hid (xs.getD k 0 = y) := ⟨_, rfl⟩
      obtain ⟨bb, ob, rfl, e1⟩ := (i2.out.below hb.out) k (by have := n2.out; omega)
      rw [hy.out] at e1
      have yb : y < 256 := by rw [← hy.out]; exact x2.out k
      obtain ⟨B, hB⟩ : ∃ B, Hid ((ipL xs [] k).2 = B) := ⟨_, rfl⟩
      have hBl : Hid (∀ i, B.getD i 0 < 256) := by show ∀ i, _; rw [← hB.out]; exact (ipL_lt xs [] k).2
      have hR1 : Hid (Rd wr a' m c' B) := by show Rd _ _ _ _ _; rw [← hB.out]; exact hR.out
      have hmb : m ≤ 1000 := by rw [hR1.out.len, ← hB.out, ipL_len2]; have := nb.out; omega
      have hBn : Hid (timesT B [y, 1] = (ipL xs [] (k + 1)).2) := by show _ = _; rw [← hB.out, ← hy.out]; exact ipL_next xs x2.out k (by have := nb.out; omega)
      have zk : n ≤ 45 := nb.out
      clear hR
      go_wp2_with (fail)
      have hb1 : Hid (Below wr.heap.size wr (wr.alloc (.cells #[.int .u8 (y : Int), .int .u8 1] 5))) := (Below.refl _ _).alloc (Nat.le_refl _) _
      refine (refpmulz_any a' _ m 2 c' 2 B [y, 1] _ hBn.out hBl.out (lt_two yb (by decide)) hmb (by omega) _ (hR1.out.below hb1.out) (rd_new wr [y, 1] 2 rfl)).mono ?_
      rintro e w2 ⟨⟨a2, m2, c2, rfl, hr2⟩, hb2⟩
      have hr3 := hidIt hr2
      have hb3 := hidIt (then_below (then_below hb.out hb1.out) hb2)
      clear hr2 hb2 hb hb1
      go_wp2_with (fail)
      go_roundw
      case rel => exact ⟨k + 1, m2, a2, c2, by omega, by go_num, rfl, hr3.out, hb3.out⟩
      case measure => simp [intOf]; omega
    · obtain rfl : k = n := by omega
      have t1 : ¬ (k : Int) < (k : Int) := by omega
      go_wp2
      go_ret
      exact ⟨⟨_, _, _, rfl, hR.out⟩, hb.out⟩
set_option maxRecDepth 100000 in
theorem refder_any (a : Option Addr) (n c : Nat) (xs : List Nat) (hn : n = xs.length) (hx : ∀ i, xs.getD i 0 < 256) (hbig : n ≤ 1000) (w : World) (h : Bytes w a xs) :
    Calls Try.prog 17 #[.slice a n c] w fun e w' => (∃ a' m' c', e = .returned (.slice a' m' c') ∧ Rd w' a' m' c' (Pl.trim (der xs))) ∧ Below w.heap.size w w' := by
  obtain ⟨F, hF⟩ : ∃ F : Nat → Nat, Hid (dfn (Pl.co xs) = F) := ⟨_, rfl⟩
  have hFb : Hid (∀ i, F i < 256) := by show ∀ i, _; rw [← hF.out]; exact dfn_lt hx
  have hFt : Hid (Pl.trim (Pl.fn F (n - 1)) = Pl.trim (der xs)) := by show _ = _; rw [← hF.out, hn]; exact der_short xs
  have hFe : Hid (∀ k, k % 2 = 0 → F k = xs.getD (k + 1) 0) := fun k hk => by rw [← hF.out]; unfold dfn; rw [if_pos hk]
  have hFo : Hid (∀ k, ¬ k % 2 = 0 → F k = 0) := fun k hk => by rw [← hF.out]; unfold dfn; rw [if_neg hk]
  have n2 := hidIt hn
  have i2 := hidIt h
  have nb := hidIt hbig
  clear hn hx h hbig
  go_enter Try.func17, Try.ntmps17
  go_wp2_with (fail)
  go_loopw [4, 3] (fun i v wr => ∃ k q : Nat, i = .int .i64 (q : Int) ∧ (q ≤ n ∨ k = 0) ∧ Hid (q = k + 1) ∧ Hid (wr.ownsRow w.heap.size 5 1 v k (vals (Pl.fn F k))) ∧ Hid (Below w.heap.size w wr)) (fun i _ _ => n - (intOf i).toNat)
  case atStart => exact ⟨0, 1, rfl, .inr rfl, rfl, World.ownsRow_nil _ _ _ _, Below.refl _ _⟩
  case round =>
    obtain ⟨k, q, rfl, hq, hqk, hown, hb⟩ := hrel
    obtain ⟨a', c', rfl, hrd⟩ := own_rd hown.out (Pl.fn_len F k).symm
    have hrd' := hidIt hrd
    have zk : n ≤ 1000 := nb.out
    clear hrd
    by_cases hlt : q < n
    · have t1 : (q : Int) < (n : Int) := by omega
      have hkb : Hid (k + 1 ≤ 140737488355328) := by have := hqk.out; show _ ≤ _; omega
      obtain ⟨x, hx⟩ : ∃ x, Hid (xs.getD q 0 = x) := ⟨_, rfl⟩
      obtain ⟨bb, ob, rfl, e1⟩ := (i2.out.below hb.out) q (by have := n2.out; omega)
      rw [hx.out] at e1
      by_cases hodd : q % 2 = 1
      · have tm : Int.tmod (q : Int) 2 = 1 := by rw [Int.tmod_eq_emod_of_nonneg (by omega)]; omega
        have tm2 : (q : Int) % 2 = 1 := by omega
        have hxF : Hid (x = F k) := by show _ = _; rw [hFe.out k (by have := hqk.out; omega), ← hqk.out, hx.out]
        clear hodd
        go_wp2_with (at_builtin; refine wpList_append_byte w wr rfl _ _ rfl (.slice a' k c') k (Pl.fn F k) rfl (Pl.fn_len F k).symm hown.out _ x rfl rfl hkb.out hb.out ?_)
        intro a6 c6 w6 hown6 hb6
        rw [hxF.out, fn_succ] at hown6
        have hown7 := hidIt hown6
        have hb7 := hidIt hb6
        clear hown6 hb6
        go_wp2
        go_roundw
        case rel => exact ⟨k + 1, q + 1, by go_num, .inl (by omega), (by show _ = _; rw [hqk.out]), hown7.out, hb7.out⟩
        case measure => simp [intOf]; omega
      · have tm : Int.tmod (q : Int) 2 = 0 := by rw [Int.tmod_eq_emod_of_nonneg (by omega)]; omega
        have tm2 : (q : Int) % 2 = 0 := by omega
        have hxF : Hid (0 = F k) := by show _ = _; rw [hFo.out k (by have := hqk.out; omega)]
        clear hodd
        go_wp2_with (at_builtin; refine wpList_append_byte w wr rfl _ _ rfl (.slice a' k c') k (Pl.fn F k) rfl (Pl.fn_len F k).symm hown.out _ 0 rfl rfl hkb.out hb.out ?_)
        intro a6 c6 w6 hown6 hb6
        rw [hxF.out, fn_succ] at hown6
        have hown7 := hidIt hown6
        have hb7 := hidIt hb6
        clear hown6 hb6
        go_wp2
        go_roundw
        case rel => exact ⟨k + 1, q + 1, by go_num, .inl (by omega), (by show _ = _; rw [hqk.out]), hown7.out, hb7.out⟩
        case measure => simp [intOf]; omega
    · have t1 : ¬ (q : Int) < (n : Int) := by omega
      have hk1 : k = n - 1 := by have := hqk.out; omega
      have hlt' : Hid (∀ i, (Pl.fn F k).getD i 0 < 256) := fn_lt hFb.out k
      have hkl : k ≤ 100000 := by omega
      have hFt2 : Hid (Pl.trim (Pl.fn F k) = Pl.trim (der xs)) := by show _ = _; rw [hk1]; exact hFt.out
      clear hk1
      go_wp2_with (fail)
      refine (reftrim_any a' k c' (Pl.fn F k) hlt'.out hkl _ hrd'.out).mono ?_
      rintro e w2 ⟨⟨a3, m3, c3, rfl, hr3⟩, hb3⟩
      rw [hFt2.out] at hr3
      have hr3' := hidIt hr3
      have hb4 := hidIt (hb.out.trans (hb3.mono hb.out.size))
      clear hr3 hb3
      go_wp2
      go_ret
      exact ⟨⟨_, _, _, rfl, hr3'.out⟩, hb4.out⟩
theorem mult_outQ {xs Q : List Nat} {r s m m' : Nat} {T T' : List Nat} (hr : r < 256) (hs : s < 256) (hQ : ∀ y, y < 256 → Pl.hor y xs = Gf.mul (Pl.hor y Q) (y ^^^ r)) (h : MultIs xs s m T) (k : MultIs Q s m' T') : m = if s = r then m' + 1 else m' := by
  have hc := Gf.xor_lt hs hr
  have e : ∀ i, Pl.co T i = Pl.co (root (s ^^^ r) T') i := co_eq_of_values h.lt (root_lt k.lt) (Nat.le_trans h.len (by decide)) (by rw [root_len]; have := k.len; omega) (fun y hy => by
    have hz := Gf.xor_lt hy hs
    rw [h.hor y hy, hor_root hy hc k.lt, k.hor y hy, hQ _ hz, Nat.xor_assoc])
  by_cases hsr : s = r
  · rw [if_pos hsr]
    subst hsr
    have e2 : ∀ i, Pl.co T i = if i = 0 then 0 else Pl.co T' (i - 1) := fun i => by rw [e, root_co, Nat.xor_self, Gf.mul_zero, Nat.xor_zero]
    rcases Nat.lt_trichotomy m (m' + 1) with h1 | h1 | h1
    · refine absurd ?_ h.top
      rw [e2]
      by_cases hm : m = 0
      · rw [if_pos hm]
      · rw [if_neg hm]; exact k.low _ (by omega)
    · exact h1
    · have h2 := h.low _ h1
      rw [e2, if_neg (by omega), Nat.add_sub_cancel] at h2
      exact absurd h2 k.top
  · rw [if_neg hsr]
    have hne := xor_ne hsr
    have e2 : ∀ i, i < m' → Pl.co T i = 0 := fun i hi => by
      rw [e, root_co, k.low i hi, Gf.zero_mul, Nat.xor_zero]
      by_cases h1 : i = 0
      · rw [if_pos h1]
      · rw [if_neg h1]; exact k.low _ (by omega)
    have e3 : Pl.co T m' ≠ 0 := by
      rw [e, root_co]
      have hz : (if m' = 0 then 0 else Pl.co T' (m' - 1)) = 0 := by
        by_cases h1 : m' = 0
        · rw [if_pos h1]
        · rw [if_neg h1]; exact k.low _ (by omega)
      rw [hz, Nat.zero_xor]
      exact Pl.mul_ne (k.lt m') hc k.top hne
    rcases Nat.lt_trichotomy m m' with h1 | h1 | h1
    · exact absurd (e2 m h1) h.top
    · exact h1
    · exact absurd (h.low m' h1) e3
theorem rest_nil {A Q : List Nat} {r : Nat} (hr : r < 256) (hA : ∀ i, A.getD i 0 < 256) (h : DivOk A [r, 1] Q []) : ∀ y, y < 256 → Pl.hor y A = Gf.mul (Pl.hor y Q) (y ^^^ r) := by
  intro y hy
  obtain ⟨hQ, _, _, _, _, _, hc⟩ := h
  have hl1 := lt_two hr (show 1 < 256 by decide)
  rw [hor_co hy (B := timesT [r, 1] Q) hA (timesT_lt hl1) (fun i => by rw [timesT_co, hc i]; show 0 ^^^ _ = _; rw [Nat.zero_xor]), ring_ev_mul hy hl1 hQ, hor_lin hy]
  exact Gf.mul_comm (Gf.xor_lt hy hr) (Pl.hor_lt _ (ok_of hQ))
theorem quo_pos {A Q : List Nat} {r : Nat} (hA : ∀ i, A.getD i 0 < 256) (hl : A.length ≤ 64) (h0 : 0 < Pl.d1 A) (h : ∀ y, y < 256 → Pl.hor y A = Gf.mul (Pl.hor y Q) (y ^^^ r)) (hQ : ∀ i, Q.getD i 0 < 256) : 0 < Pl.d1 Q := by
  refine Nat.pos_of_ne_zero (fun hz => Pl.d1_top A h0 ?_)
  have e := co_eq_of_values (A := A) (B := []) hA (fun i => by simp) (by omega) (Nat.zero_le _) (fun y hy => by
    have h1 : Pl.hor y Q = 0 := by
      rw [Pl.hor_ev hy Q (ok_of hQ)]
      exact Pl.S_zero (fun i _ => by rw [Pl.d1_zero Q i (by omega), Gf.zero_mul])
    rw [h y hy, h1, Gf.zero_mul]; rfl)
  rw [e]
  exact Pl.co_out (Nat.zero_le _)
set_option maxRecDepth 100000 in
set_option maxHeartbeats 1000000 in
theorem refmult_any (a : Option Addr) (n c r : Nat) (xs : List Nat) (hx : ∀ i, xs.getD i 0 < 256) (hr : r < 256) (hbig : n ≤ 64) (h0 : 0 < Pl.d1 xs) (M : Nat) (hM : mlt xs r = M) (hMb : M ≤ 64) (w : World) (h : Rd w a n c xs) :
    Calls Try.prog 21 #[.slice a n c, .int .u8 r] w fun e w' => e = .returned (.int .i64 (M : Int)) ∧ Below w.heap.size w w' := by
  have i2 := hidIt h
  have x2 := hidIt hx
  have d2 := hidIt h0
  have M2 := hidIt hM
  have hl1 := hidIt (lt_two hr (show 1 < 256 by decide))
  have hd2 : Hid (0 < Pl.d1 [r, 1]) := by show _ < _; rw [lin_d1]; decide
  clear h hx h0 hM
  go_enter Try.func21, Try.ntmps21
  go_wp2_with (fail)
  go_loopw [0, 5, 6, 7, 8] (fun p v _ _ _ wr => ∃ (j m : Nat) (a' : Option Addr) (c' : Nat) (A : List Nat), p = .slice a' m c' ∧ v = .int .i64 (j : Int) ∧ j ≤ M ∧ m ≤ 64 ∧ Hid (Rd wr a' m c' A) ∧ Hid (∀ i, A.getD i 0 < 256) ∧ Hid (0 < Pl.d1 A) ∧ Hid (mlt A r + j = M) ∧ Hid (Below w.heap.size w wr)) (fun _ v _ _ _ _ => M - (intOf v).toNat)
  case atStart => exact ⟨0, n, a, c, xs, rfl, rfl, by omega, hbig, i2.out, x2.out, d2.out, (by show _ = _; rw [M2.out]; rfl), Below.refl _ _⟩
  case round =>
    obtain ⟨j, m, a', c', A, rfl, rfl, hj, hm64, hA, hAb, hAd, hAm, hb⟩ := hrel
    go_wp2_with (fail)
    have hb1 : Hid (Below wr.heap.size wr (wr.alloc (.cells #[.int .u8 (r : Int), .int .u8 1] 5))) := (Below.refl _ _).alloc (Nat.le_refl _) _
    refine (refdivmod_any a' _ m 2 c' 2 A [r, 1] hAb.out hl1.out (by omega) (by omega) hd2.out _ (hA.out.below hb1.out) (rd_new wr [r, 1] 2 rfl)).mono ?_
    rintro e w2 ⟨⟨aD, mD, cD, aR, mR, cR, D, R, rfl, hrD, hrR, hdv⟩, hb2⟩
    have hb3 := hidIt (then_below (then_below hb.out hb1.out) hb2)
    have hroot := hidIt (rest_root hr hAb.out hdv)
    have hdv2 := hidIt hdv
    have hrD2 := hidIt hrD
    have hRl := hidIt hrR.len
    have hAl : A.length ≤ 64 := by rw [← hA.out.len]; exact hm64
    obtain ⟨m1, T1, k1⟩ := mult_ex hr hAb.out hAl hAd.out
    have hm1 := mlt_is k1
    by_cases hR0 : 0 < mR
    · have t1 : (0 : Int) < (mR : Int) := by omega
      have hjM : j = M := by
        have h1 : ¬ Pl.hor r A = 0 := fun e => by have := hroot.out.2 e; have := hRl.out; omega
        have h2 : m1 = 0 := Nat.eq_zero_of_not_pos (fun e => h1 (k1.root.2 e))
        have := hAm.out
        omega
      clear hrD hrR hdv hb2 hb1 hb hA
      go_wp2_with (fail)
      go_ret
      exact ⟨rfl, hb3.out⟩
    · have t1 : ¬ (0 : Int) < (mR : Int) := by omega
      have hRn : R = [] := List.eq_nil_of_length_eq_zero (by have := hRl.out; omega)
      subst hRn
      have hQv := rest_nil hr hAb.out hdv2.out
      have hDb : Hid (∀ i, D.getD i 0 < 256) := hdv2.out.1
      have hDd := hidIt (quo_pos hAb.out hAl hAd.out hQv hDb.out)
      have hDl : D.length ≤ 64 := by have h1 := hdv2.out.2.2.2.2.2.1; have := Pl.d1_le A; rw [lin_d1] at h1; omega
      have hmD : Hid (mD ≤ 64) := by show _ ≤ _; rw [hrD2.out.len]; exact hDl
      obtain ⟨m2, T2, k2⟩ := mult_ex hr hDb.out hDl hDd.out
      have hm2 := mlt_is k2
      have hout := mult_outQ hr hr hQv k1 k2
      rw [if_pos rfl] at hout
      have hDm : Hid (mlt D r + (j + 1) = M) := by have := hAm.out; show _ = _; omega
      have hj1 : j + 1 ≤ M := by have := hDm.out; omega
      clear hrD hrR hdv hb2 hb1 hb hA hQv hout k1 k2 hm1 hm2
      go_wp2_with (fail)
      go_roundw
      case rel => exact ⟨j + 1, mD, aD, cD, D, rfl, by go_num, hj1, hmD.out, hrD2.out, hDb.out, hDd.out, hDm.out, hb3.out⟩
      case measure => simp [intOf]; omega
theorem row_rdV {w : World} {a : Option Addr} {len cap : Nat} {bs : List Nat} (h : RowB w a len cap bs) : Rd w a len cap bs := ⟨h.len, h.bytes, h.nil, by rw [h.len]; exact h.lecap⟩
theorem fromroots_large (a : Option Addr) (n c : Nat) (h : 1023 < n) (w : World) :
    Calls Try.prog 10 #[.slice a n c] w fun e w' => e = .returned (.tuple #[.slice none 0 0, .int .i64 2]) ∧ Below w.heap.size w w' := by
  have t : (1023 : Int) < (n : Int) := by omega
  clear h
  go_enter Try.func10, Try.ntmps10
  go_wp2
  go_ret2
  exact ⟨rfl, Below.refl _ _⟩
theorem roots_zero (a : Option Addr) (n c : Nat) (xs : List Nat) (hn : n = xs.length) (hx : ∀ i, xs.getD i 0 < 256) (hbig : n ≤ 1000) (h0 : Pl.d1 xs = 0) (w : World) (h : Bytes w a xs) :
    Calls Try.prog 11 #[.slice a n c] w fun e w' => e = .returned (.tuple #[.slice none 0 0, .int .i64 1]) ∧ Below w.heap.size w w' := by
  have n2 := hidIt hn
  have x2 := hidIt hx
  have i2 := hidIt h
  have e0 : Hid ((Pl.d1 xs : Int) - 1 = -1) := by show _ = _; omega
  clear hn hx h h0
  go_enter Try.func11, Try.ntmps11
  go_wp2_with (fail)
  refine (deg_is a n c xs (-1) e0.out n2.out x2.out (by omega) _ i2.out).mono ?_
  rintro e w1 ⟨rfl, rfl⟩
  go_wp2_with (fail)
  go_ret2
  exact ⟨rfl, Below.refl _ _⟩
theorem mult_zero (a : Option Addr) (n c r : Nat) (xs : List Nat) (hn : n = xs.length) (hx : ∀ i, xs.getD i 0 < 256) (hbig : n ≤ 1000) (h0 : Pl.d1 xs = 0) (w : World) (h : Bytes w a xs) :
    Calls Try.prog 12 #[.slice a n c, .int .u8 (r : Int)] w fun e w' => e = .returned (.tuple #[.int .i64 0, .int .i64 1]) ∧ Below w.heap.size w w' := by
  have n2 := hidIt hn
  have x2 := hidIt hx
  have i2 := hidIt h
  have e0 : Hid ((Pl.d1 xs : Int) - 1 = -1) := by show _ = _; omega
  clear hn hx h h0
  go_enter Try.func12, Try.ntmps12
  go_wp2_with (fail)
  refine (deg_is a n c xs (-1) e0.out n2.out x2.out (by omega) _ i2.out).mono ?_
  rintro e w1 ⟨rfl, rfl⟩
  go_wp2_with (fail)
  go_ret2
  exact ⟨rfl, Below.refl _ _⟩
theorem refdeg_is (a : Option Addr) (n c : Nat) (xs : List Nat) (g : Int) (hg : (Pl.d1 xs : Int) - 1 = g) (hx : ∀ i, xs.getD i 0 < 256) (hbig : n ≤ 1000) (w : World) (h : Rd w a n c xs) :
    Calls Try.prog 19 #[.slice a n c] w fun e w' => e = .returned (.int .i64 g) ∧ Below w.heap.size w w' := by
  subst hg; exact refdeg_any a n c xs hx (by omega) w h
theorem rootsB (ps : List Nat) : ∀ i, (rootsL ps 256).getD i 0 < 256 := lt_all (fun r h => rootsL_lt ps 256 r h)
set_option maxRecDepth 100000 in
set_option maxHeartbeats 2000000 in
theorem values_walk (a0 : Option Addr) (len0 cap0 : Nat) (ps : List Nat) (x0 : Int) (w : World) (r0 : RowB w a0 len0 cap0 ps) (wx : (Lit.int .u8 x0).wf = true) :
    Calls Try.prog 3 #[.slice a0 len0 cap0, .int .u8 x0] w fun e w' => e = .returned (.bool true) ∧ Below w.heap.size w w' := by
  obtain ⟨x, xb, rfl⟩ := nat_u8 wx
  have hps := hidIt (row_lt r0)
  have nps := hidIt r0.len
  have bps := hidIt r0.bytes
  have rps := hidIt (row_rdV r0)
  clear r0 wx
  go_enter Try.func3, Try.ntmps3
  go_wp2_with (fail)
  refine (awake6_any _).mono ?_
  rintro e w1 ⟨rfl, be1⟩
  replace be1 := hidIt be1
  by_cases hlarge : 1023 < len0
  · have t : (1023 : Int) < (len0 : Int) := by omega
    go_wp2_with (fail)
    refine (fromroots_large a0 len0 cap0 hlarge _).mono ?_
    rintro e w2 ⟨rfl, hbel⟩
    have be2 := hidIt (then_below be1.out hbel)
    clear hbel hlarge
    go_wp2_with (fail)
    go_ret
    exact ⟨rfl, be2.out⟩
  · have t : ¬ (1023 : Int) < (len0 : Int) := by omega
    clear hlarge
    by_cases hmany : 40 < len0
    · have t2 : (40 : Int) < (len0 : Int) := by omega
      clear hmany
      go_wp2_with (fail)
      go_ret
      exact ⟨rfl, be1.out⟩
    · have t2 : ¬ (40 : Int) < (len0 : Int) := by omega
      have zp : len0 ≤ 40 := by omega
      have lp : Hid (ps.length ≤ 64) := by have := nps.out; show _ ≤ _; omega
      clear hmany
      go_wp2_with (fail)
      refine (fromroots_any a0 len0 cap0 ps nps.out hps.out (by omega) _ (bps.out.below be1.out)).mono ?_
      rintro e w3 ⟨⟨aF, cF, rfl, hbF⟩, hbel⟩
      have be3 := hidIt (then_below be1.out hbel)
      obtain ⟨F, hF⟩ : ∃ F, Hid ((ipL ps [] len0).2 = F) := ⟨_, rfl⟩
      rw [hF.out] at hbF
      have bF := hidIt hbF
      obtain ⟨lF, hlF⟩ : ∃ lF, Hid (len0 + 1 = lF) := ⟨_, rfl⟩
      rw [hlF.out]
      have nF : Hid (lF = F.length) := by show _ = _; rw [← hF.out, ← hlF.out, ipL_len2]
      have hFb : Hid (∀ i, F.getD i 0 < 256) := by show ∀ i, _; rw [← hF.out]; exact (ipL_lt ps [] len0).2
      obtain ⟨v, hv⟩ : ∃ v, Hid (Pl.hor x ps = v) := ⟨_, rfl⟩
      obtain ⟨E, hE⟩ : ∃ E, Hid (Pl.trim (der ps) = E) := ⟨_, rfl⟩
      have hEb : Hid (∀ i, E.getD i 0 < 256) := by show ∀ i, _; rw [← hE.out]; exact derT_lt hps.out
      obtain ⟨g, hg⟩ : ∃ g : Int, Hid ((Pl.d1 ps : Int) - 1 = g) := ⟨_, rfl⟩
      clear hbel be1 hbF
      by_cases hz : Pl.d1 ps = 0
      · have hz2 := hidIt hz
        have tg : g < 0 := by have := hg.out; omega
        clear hz
        go_wp2_with (fail)
        refine (roots_zero a0 len0 cap0 ps nps.out hps.out (by omega) hz2.out _ (bps.out.below be3.out)).mono ?_
        rintro e w4 ⟨rfl, hbel⟩
        have be4 := hidIt (then_below be3.out hbel)
        replace bF := hidIt (bF.out.below hbel)
        clear hbel be3
        go_wp2_with (fail)
        refine (mult_zero a0 len0 cap0 x ps nps.out hps.out (by omega) hz2.out _ (bps.out.below be4.out)).mono ?_
        rintro e w5 ⟨rfl, hbel⟩
        have be5 := hidIt (then_below be4.out hbel)
        replace bF := hidIt (bF.out.below hbel)
        clear hbel be4
        go_wp2_with (fail)
        refine (eval_any a0 len0 cap0 x ps nps.out hps.out xb (by omega) _ (bps.out.below be5.out)).mono ?_
        rintro e w6 ⟨rfl, hbel⟩
        have be6 := hidIt (then_below be5.out hbel)
        replace bF := hidIt (bF.out.below hbel)
        rw [hv.out]
        clear hbel be5
        go_wp2_with (fail)
        refine (refeval_any a0 len0 cap0 x ps nps.out hps.out xb (by omega) v hv.out _ (bps.out.below be6.out)).mono ?_
        rintro e w7 ⟨rfl, hbel⟩
        have be7 := hidIt (then_below be6.out hbel)
        replace bF := hidIt (bF.out.below hbel)
        clear hbel be6
        go_wp2_with (fail)
        refine (derR_any a0 len0 cap0 ps nps.out hps.out (by omega) _ (bps.out.below be7.out)).mono ?_
        rintro e w8 ⟨⟨aE, mE, cE, rfl, hnE, hbE⟩, hbel⟩
        have be8 := hidIt (then_below be7.out hbel)
        replace bF := hidIt (bF.out.below hbel)
        rw [hE.out] at hnE hbE
        have nE := hidIt hnE
        have bE := hidIt hbE
        clear hbel be7 hnE hbE
        go_wp2_with (fail)
        refine (refder_any a0 len0 cap0 ps nps.out hps.out (by omega) _ (bps.out.below be8.out)).mono ?_
        rintro e w9 ⟨⟨aE2, mE2, cE2, rfl, hr2⟩, hbel⟩
        have be9 := hidIt (then_below be8.out hbel)
        replace bF := hidIt (bF.out.below hbel)
        replace bE := hidIt (bE.out.below hbel)
        rw [hE.out] at hr2
        have rE := hidIt hr2
        clear hbel be8 hr2
        go_wp2_with (fail)
        refine (same6b aE aE2 mE mE2 cE cE2 E E true nE.out rE.out.len hEb.out hEb.out (decide_eq_true rfl) _ bE.out rE.out.bytes).mono ?_
        rintro e w10 ⟨rfl, hbel⟩
        have be10 := hidIt (then_below be9.out hbel)
        replace bF := hidIt (bF.out.below hbel)
        clear hbel be9 bE rE
        go_wp2_with (fail)
        refine (reffrom_any a0 len0 cap0 ps nps.out hps.out (by omega) _ (bps.out.below be10.out)).mono ?_
        rintro e w11 ⟨⟨aG, mG, cG, rfl, hr3⟩, hbel⟩
        have be11 := hidIt (then_below be10.out hbel)
        replace bF := hidIt (bF.out.below hbel)
        rw [hF.out] at hr3
        have rG := hidIt hr3
        clear hbel be10 hr3
        go_wp2_with (fail)
        refine (same6b aF aG lF mG cF cG F F true nF.out rG.out.len hFb.out hFb.out (decide_eq_true rfl) _ bF.out rG.out.bytes).mono ?_
        rintro e w12 ⟨rfl, hbel⟩
        have be12 := hidIt (then_below be11.out hbel)
        replace bF := hidIt (bF.out.below hbel)
        clear hbel be11 bF rG
        go_wp2_with (fail)
        refine (refdeg_is a0 len0 cap0 ps g hg.out hps.out (by omega) _ (rps.out.below be12.out)).mono ?_
        rintro e w13 ⟨rfl, hbel⟩
        have be13 := hidIt (then_below be12.out hbel)
        clear hbel be12
        go_wp2_with (fail)
        go_ret
        exact ⟨rfl, be13.out⟩
      · have hd1 : Hid (0 < Pl.d1 ps) := Nat.pos_of_ne_zero hz
        have tg : ¬ g < 0 := by have := hg.out; omega
        clear hz
        go_wp2_with (fail)
        refine (roots_any a0 len0 cap0 ps nps.out hps.out (by omega) hd1.out _ (bps.out.below be3.out)).mono ?_
        rintro e w4 ⟨⟨aR, mR, cR, rfl, hnR, hbR⟩, hbel⟩
        have be4 := hidIt (then_below be3.out hbel)
        replace bF := hidIt (bF.out.below hbel)
        have nR := hidIt hnR
        have bR := hidIt hbR
        clear hbel be3 hnR hbR
        go_wp2_with (fail)
        refine (mult_any a0 len0 cap0 x ps nps.out hps.out xb (by omega) hd1.out _ (bps.out.below be4.out)).mono ?_
        rintro e w5 ⟨⟨m, rfl, hm64, T, hT⟩, hbel⟩
        have be5 := hidIt (then_below be4.out hbel)
        replace bF := hidIt (bF.out.below hbel)
        replace bR := hidIt (bR.out.below hbel)
        have hmm : Hid (mlt ps x = m) := mlt_is hT
        clear hbel be4 hT
        go_wp2_with (fail)
        refine (eval_any a0 len0 cap0 x ps nps.out hps.out xb (by omega) _ (bps.out.below be5.out)).mono ?_
        rintro e w6 ⟨rfl, hbel⟩
        have be6 := hidIt (then_below be5.out hbel)
        replace bF := hidIt (bF.out.below hbel)
        replace bR := hidIt (bR.out.below hbel)
        rw [hv.out]
        clear hbel be5
        go_wp2_with (fail)
        refine (refeval_any a0 len0 cap0 x ps nps.out hps.out xb (by omega) v hv.out _ (bps.out.below be6.out)).mono ?_
        rintro e w7 ⟨rfl, hbel⟩
        have be7 := hidIt (then_below be6.out hbel)
        replace bF := hidIt (bF.out.below hbel)
        replace bR := hidIt (bR.out.below hbel)
        clear hbel be6
        go_wp2_with (fail)
        refine (derR_any a0 len0 cap0 ps nps.out hps.out (by omega) _ (bps.out.below be7.out)).mono ?_
        rintro e w8 ⟨⟨aE, mE, cE, rfl, hnE, hbE⟩, hbel⟩
        have be8 := hidIt (then_below be7.out hbel)
        replace bF := hidIt (bF.out.below hbel)
        replace bR := hidIt (bR.out.below hbel)
        rw [hE.out] at hnE hbE
        have nE := hidIt hnE
        have bE := hidIt hbE
        clear hbel be7 hnE hbE
        go_wp2_with (fail)
        refine (refder_any a0 len0 cap0 ps nps.out hps.out (by omega) _ (bps.out.below be8.out)).mono ?_
        rintro e w9 ⟨⟨aE2, mE2, cE2, rfl, hr2⟩, hbel⟩
        have be9 := hidIt (then_below be8.out hbel)
        replace bF := hidIt (bF.out.below hbel)
        replace bR := hidIt (bR.out.below hbel)
        replace bE := hidIt (bE.out.below hbel)
        rw [hE.out] at hr2
        have rE := hidIt hr2
        clear hbel be8 hr2
        go_wp2_with (fail)
        refine (same6b aE aE2 mE mE2 cE cE2 E E true nE.out rE.out.len hEb.out hEb.out (decide_eq_true rfl) _ bE.out rE.out.bytes).mono ?_
        rintro e w10 ⟨rfl, hbel⟩
        have be10 := hidIt (then_below be9.out hbel)
        replace bF := hidIt (bF.out.below hbel)
        replace bR := hidIt (bR.out.below hbel)
        clear hbel be9 bE rE
        go_wp2_with (fail)
        refine (reffrom_any a0 len0 cap0 ps nps.out hps.out (by omega) _ (bps.out.below be10.out)).mono ?_
        rintro e w11 ⟨⟨aG, mG, cG, rfl, hr3⟩, hbel⟩
        have be11 := hidIt (then_below be10.out hbel)
        replace bF := hidIt (bF.out.below hbel)
        replace bR := hidIt (bR.out.below hbel)
        rw [hF.out] at hr3
        have rG := hidIt hr3
        clear hbel be10 hr3
        go_wp2_with (fail)
        refine (same6b aF aG lF mG cF cG F F true nF.out rG.out.len hFb.out hFb.out (decide_eq_true rfl) _ bF.out rG.out.bytes).mono ?_
        rintro e w12 ⟨rfl, hbel⟩
        have be12 := hidIt (then_below be11.out hbel)
        replace bF := hidIt (bF.out.below hbel)
        replace bR := hidIt (bR.out.below hbel)
        clear hbel be11 bF rG
        go_wp2_with (fail)
        refine (refdeg_is a0 len0 cap0 ps g hg.out hps.out (by omega) _ (rps.out.below be12.out)).mono ?_
        rintro e w13 ⟨rfl, hbel⟩
        have be13 := hidIt (then_below be12.out hbel)
        replace bR := hidIt (bR.out.below hbel)
        clear hbel be12
        go_wp2_with (fail)
        refine (refroots_any a0 len0 cap0 ps nps.out hps.out (by omega) _ (bps.out.below be13.out)).mono ?_
        rintro e w14 ⟨⟨aS, mS, cS, rfl, hnS, hbS⟩, hbel⟩
        have be14 := hidIt (then_below be13.out hbel)
        replace bR := hidIt (bR.out.below hbel)
        have nS := hidIt hnS
        have bS := hidIt hbS
        clear hbel be13 hnS hbS
        go_wp2_with (fail)
        refine (same6b aR aS mR mS cR cS (rootsL ps 256) (rootsL ps 256) true nR.out nS.out (rootsB ps) (rootsB ps) (decide_eq_true rfl) _ bR.out bS.out).mono ?_
        rintro e w15 ⟨rfl, hbel⟩
        have be15 := hidIt (then_below be14.out hbel)
        clear hbel be14
        go_wp2_with (fail)
        refine (refmult_any a0 len0 cap0 x ps hps.out xb (by omega) hd1.out m hmm.out hm64 _ (rps.out.below be15.out)).mono ?_
        rintro e w16 ⟨rfl, hbel⟩
        have be16 := hidIt (then_below be15.out hbel)
        clear hbel be15
        go_wp2_with (fail)
        go_ret
        exact ⟨rfl, be16.out⟩
end Go.Proofs.Ytcnjcfmgkkghjaa
