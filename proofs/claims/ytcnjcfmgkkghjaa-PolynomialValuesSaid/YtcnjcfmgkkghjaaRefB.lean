import Derived.Test.YtcnjcfmgkkghjaaPlRefDiv
namespace Go.Proofs.Ytcnjcfmgkkghjaa
open Go.RowKit
theorem own_rdB {w : World} {base n : Nat} {v : Value} {l : List Nat} (h : w.ownsRow base 5 1 v n (vals l)) (hn : n = l.length) : ∃ a c, v = .slice a n c ∧ Rd w a n c l ∧ ∀ x, a = some x → base ≤ x.block := by
  obtain ⟨a, c, rfl, hr⟩ := own_rd h hn
  obtain ⟨a', c', hv, _, hb⟩ := owned_bytes h hn
  simp only [Value.slice.injEq] at hv
  obtain ⟨rfl, _, _⟩ := hv
  exact ⟨_, _, rfl, hr, hb⟩
set_option maxRecDepth 100000 in
theorem reftrimB_any (a : Option Addr) (n c : Nat) (xs : List Nat) (hx : ∀ i, xs.getD i 0 < 256) (hbig : n ≤ 100000) (w : World) (h : Rd w a n c xs) :
    Calls Try.prog 44 #[.slice a n c] w fun e w' => (∃ a' m' c', e = .returned (.slice a' m' c') ∧ Rd w' a' m' c' (Pl.trim xs) ∧ ∀ x, a' = some x → w.heap.size ≤ x.block) ∧ Below w.heap.size w w' := by
  have hown : Hid ((w.alloc (.cells #[] 5)).ownsRow w.heap.size 5 1 (.slice (some ⟨w.heap.size, 0, none⟩) 0 0) 0 []) := World.ownsRow_made w #[] 0 (Nat.le_refl _) (by unfold maxLen; omega) rfl
  have hb1 : Hid (Below w.heap.size w (w.alloc (.cells #[] 5))) := (Below.refl _ _).alloc (Nat.le_refl _) _
  have hr := hidIt h
  have x2 := hidIt hx
  clear h hx
  go_enter Try.func44, Try.ntmps44
  go_wp2
  go_loop [3] (fun i => ∃ k : Nat, k ≤ n ∧ i = .int .i64 k ∧ Hid (Pl.dn (Pl.co xs) k = Pl.d1 xs)) (fun i => (intOf i).toNat)
  case atStart => exact ⟨n, Nat.le_refl _, rfl, by show _ = _; rw [hr.out.len]; rfl⟩
  case round =>
    obtain ⟨k, hk, rfl, hd⟩ := hrel
    by_cases hgo : 0 < k ∧ xs.getD (k - 1) 0 = 0
    · obtain ⟨m, rfl⟩ : ∃ m, k = m + 1 := ⟨k - 1, by omega⟩
      obtain ⟨b, off, rfl, e1⟩ := hr.out.bytes m (by have := hr.out.len; omega)
      have hz : xs.getD m 0 = 0 := hgo.2
      rw [hz] at e1
      have e3 : ((m + 1 : Nat) : Int) - 1 = (m : Int) := by omega
      have e4 : (m : Int) < (n : Int) := by omega
      obtain ⟨q, hq⟩ : ∃ q, Hid (q = m + 1) := ⟨_, rfl⟩
      rw [← hq.out] at e3
      have e5 : (0 : Int) < (q : Int) := by have := hq.out; omega
      have hz' := hidIt hz
      rw [← hq.out]
      clear hgo hz
      go_wp2
      go_round
      case rel => exact ⟨m, by omega, rfl, by show _ = _; rw [← hd.out]; show _ = if xs.getD m 0 = 0 then _ else _; rw [hz'.out, if_pos rfl]⟩
      case measure => simp [intOf]; have := hq.out; omega
    · have hdk : Hid (k = Pl.d1 xs) := by
        show _ = _
        rw [← hd.out]
        cases k with
        | zero => rfl
        | succ m =>
          have hne : ¬ xs.getD m 0 = 0 := fun e => hgo ⟨by omega, e⟩
          show _ = if xs.getD m 0 = 0 then _ else _
          rw [if_neg hne]
      obtain ⟨a', s1, s2, s3⟩ := sliceHeadO a n c k (by have := hr.out.cap; omega)
      have s2' := hidIt s2
      have s3' := hidIt s3
      have hkl : Hid (k ≤ xs.length) := by have := hr.out.len; show _ ≤ _; omega
      have htl : Hid (k = (Pl.trim xs).length) := by show _ = _; rw [Pl.trim_len]; exact hdk.out
      have hby : Hid (Bytes (w.alloc (.cells #[] 5)) a' (Pl.trim xs)) := by
        have h0 : Bytes w a' (Pl.trim xs) := fun i hi => by
          have hik : i < k := by rw [htl.out]; exact hi
          obtain ⟨b, off, e1, e2⟩ := hr.out.bytes i (by have := hkl.out; omega)
          refine ⟨b, off, (s2'.out b off e1).trans e1, ?_⟩
          rw [e2]
          have := Pl.trim_co xs i
          show _ = some (Value.int .u8 (Pl.co (Pl.trim xs) i : Nat))
          rw [this]
        exact h0.below hb1.out
      have hnil : Hid (a' = none → c = 0 ∧ Pl.trim xs = []) := fun e => by
        obtain ⟨h1, h2⟩ := hr.out.nil (s3'.out e)
        exact ⟨h1, List.eq_nil_of_length_eq_zero (by rw [← htl.out]; have := hkl.out; rw [h2] at this; exact Nat.le_zero.1 this)⟩
      have hsum : Hid (0 + (Pl.trim xs).length ≤ 140737488355328) := by have := htl.out; show _ ≤ _; omega
      clear s2 s3
      by_cases hk0 : k = 0
      · subst hk0
        have sA : ∀ W : World, (Instr.slice 22 (.slice a n c) none (some (.int .i64 0)) none).run Try.prog W = .ok (.slice a' 0 c) W := s1
        go_wp2_with (at_builtin; refine wpList_append_bytes _ rfl _ _ rfl w.heap.size _ 0 [] rfl hown.out a' _ c (Pl.trim xs) rfl htl.out hby.out hnil.out hsum.out hb1.out.size ?_)
        intro v2 w2 hown2 hg2
        have hown3 : w2.ownsRow w.heap.size 5 1 v2 (0 + (Pl.trim xs).length) (vals (Pl.trim xs)) := by simpa using hown2
        obtain ⟨a3, c3, rfl, hrd, hba⟩ := own_rdB hown3 (Nat.zero_add _)
        have hba' := hidIt hba
        clear hba
        have hrd' := hidIt hrd
        have hb2 : Hid (Below w.heap.size w w2) := hb1.out.grown hg2 hb1.out.size (fun q hq => (hown.out.lt q hq).1)
        clear hown2 hg2 hown3 hrd
        go_wp2
        go_ret
        exact ⟨⟨_, _, _, rfl, hrd'.out, hba'.out⟩, hb2.out⟩
      · obtain ⟨m, rfl⟩ : ∃ m, k = m + 1 := ⟨k - 1, by omega⟩
        obtain ⟨b, off, rfl, e1⟩ := hr.out.bytes m (by have := hkl.out; omega)
        obtain ⟨y, hy⟩ : ∃ y, Hid (xs.getD m 0 = y) := ⟨_, rfl⟩
        rw [hy.out] at e1
        have hy0 : y ≠ 0 := by rw [← hy.out]; exact fun e => hgo ⟨by omega, e⟩
        have hne : ((y : Int) == 0) = false := by simp; omega
        have e3 : ((m + 1 : Nat) : Int) - 1 = (m : Int) := by omega
        have e4 : (m : Int) < (n : Int) := by omega
        obtain ⟨q, hq⟩ : ∃ q, Hid (q = m + 1) := ⟨_, rfl⟩
        rw [← hq.out] at e3 htl s1 hk0 ⊢
        have e5 : (0 : Int) < (q : Int) := by have := hq.out; omega
        clear hgo
        go_wp2_with (at_builtin; refine wpList_append_bytes _ rfl _ _ rfl w.heap.size _ 0 [] rfl hown.out a' _ c (Pl.trim xs) rfl htl.out hby.out hnil.out hsum.out hb1.out.size ?_)
        intro v2 w2 hown2 hg2
        have hown3 : w2.ownsRow w.heap.size 5 1 v2 (0 + (Pl.trim xs).length) (vals (Pl.trim xs)) := by simpa using hown2
        obtain ⟨a3, c3, rfl, hrd, hba⟩ := own_rdB hown3 (Nat.zero_add _)
        have hba' := hidIt hba
        clear hba
        have hrd' := hidIt hrd
        have hb2 : Hid (Below w.heap.size w w2) := hb1.out.grown hg2 hb1.out.size (fun q hq => (hown.out.lt q hq).1)
        clear hown2 hg2 hown3 hrd
        go_wp2
        go_ret
        exact ⟨⟨_, _, _, rfl, hrd'.out, hba'.out⟩, hb2.out⟩
set_option maxRecDepth 100000 in
set_option maxHeartbeats 1000000 in
theorem refaddB_any (a1 a2 : Option Addr) (n1 n2 c1 c2 : Nat) (xs ys : List Nat) (hx : ∀ i, xs.getD i 0 < 256) (hy : ∀ i, ys.getD i 0 < 256) (hb1 : n1 ≤ 1000) (hb2 : n2 ≤ 1000) (w : World) (h1 : Rd w a1 n1 c1 xs) (h2 : Rd w a2 n2 c2 ys) :
    Calls Try.prog 50 #[.slice a1 n1 c1, .slice a2 n2 c2] w fun e w' => (∃ a' m' c', e = .returned (.slice a' m' c') ∧ Rd w' a' m' c' (Pl.trim (plus xs ys)) ∧ ∀ x, a' = some x → w.heap.size ≤ x.block) ∧ Below w.heap.size w w' := by
  obtain ⟨D, hD⟩ : ∃ D, Hid (D = max n1 n2) := ⟨_, rfl⟩
  obtain ⟨F, hF⟩ : ∃ F : Nat → Nat, Hid (∀ i, F i = Pl.co xs i ^^^ Pl.co ys i) := ⟨_, fun _ => rfl⟩
  have hpl : Hid (plus xs ys = Pl.fn F D) := by
    show _ = _
    have e : (fun i => Pl.co xs i ^^^ Pl.co ys i) = F := funext (fun i => (hF.out i).symm)
    unfold plus
    rw [e, hD.out, h1.len, h2.len]
  have r1 := hidIt h1
  have r2 := hidIt h2
  have x2 := hidIt hx
  have y2 := hidIt hy
  clear h1 h2 hx hy
  go_enter Try.func50, Try.ntmps50
  go_wp2_with (fail)
  go_loopw [6, 5] (fun i v wr => ∃ k : Nat, k ≤ D ∧ i = .int .i64 k ∧ Hid (wr.ownsRow w.heap.size 5 1 v k (vals (Pl.fn F k))) ∧ Hid (Below w.heap.size w wr)) (fun i _ _ => D - (intOf i).toNat)
  case atStart => exact ⟨0, by omega, rfl, World.ownsRow_nil _ _ _ _, Below.refl _ _⟩
  case round =>
    obtain ⟨k, hk, rfl, hown, hb⟩ := hrel
    obtain ⟨a', c', rfl, hrd⟩ := own_rd hown.out (Pl.fn_len F k).symm
    have hrd' := hidIt hrd
    clear hrd
    by_cases hlt : k < D
    · obtain ⟨u, hu⟩ : ∃ u, Hid (Pl.co xs k = u) := ⟨_, rfl⟩
      obtain ⟨v, hv⟩ : ∃ v, Hid (Pl.co ys k = v) := ⟨_, rfl⟩
      have ub : u < 256 := by rw [← hu.out]; exact x2.out k
      have vb : v < 256 := by rw [← hv.out]; exact y2.out k
      have hxor : bits BinOp.xor IntKind.u8 (u : Int) (v : Int) = ((F k : Nat) : Int) := by rw [u8_xor_nat _ _ ub vb, hF.out, hu.out, hv.out]
      have hkb : Hid (k + 1 ≤ 140737488355328) := by have := hD.out; show _ ≤ _; omega
      by_cases hl1 : k < n1
      · have t1 : (k : Int) < (n1 : Int) := by omega
        go_wp2_with (fail)
        refine (refat_any a1 n1 c1 k xs _ (r1.out.below hb.out) u hu.out).mono ?_
        rintro e w2 ⟨rfl, rfl⟩
        go_wp2_with (fail)
        refine (refat_any a2 n2 c2 k ys _ (r2.out.below hb.out) v hv.out).mono ?_
        rintro e w2 ⟨rfl, rfl⟩
        go_wp2_with (at_builtin; refine wpList_append_byte w wr rfl _ _ rfl (.slice a' k c') k (Pl.fn F k) rfl (Pl.fn_len F k).symm hown.out _ (F k) rfl rfl hkb.out hb.out ?_)
        intro a6 c6 w6 hown6 hb6
        rw [fn_succ] at hown6
        have hown7 := hidIt hown6
        have hb7 := hidIt hb6
        clear hown6 hb6
        go_wp2
        go_roundw
        case rel => exact ⟨k + 1, by omega, by go_num, hown7.out, hb7.out⟩
        case measure => simp [intOf]; omega
      · have t1 : (n1 : Int) ≤ (k : Int) := by omega
        have t2 : (k : Int) < (n2 : Int) := by have := hD.out; omega
        go_wp2_with (fail)
        refine (refat_any a1 n1 c1 k xs _ (r1.out.below hb.out) u hu.out).mono ?_
        rintro e w2 ⟨rfl, rfl⟩
        go_wp2_with (fail)
        refine (refat_any a2 n2 c2 k ys _ (r2.out.below hb.out) v hv.out).mono ?_
        rintro e w2 ⟨rfl, rfl⟩
        go_wp2_with (at_builtin; refine wpList_append_byte w wr rfl _ _ rfl (.slice a' k c') k (Pl.fn F k) rfl (Pl.fn_len F k).symm hown.out _ (F k) rfl rfl hkb.out hb.out ?_)
        intro a6 c6 w6 hown6 hb6
        rw [fn_succ] at hown6
        have hown7 := hidIt hown6
        have hb7 := hidIt hb6
        clear hown6 hb6
        go_wp2
        go_roundw
        case rel => exact ⟨k + 1, by omega, by go_num, hown7.out, hb7.out⟩
        case measure => simp [intOf]; omega
    · obtain rfl : k = D := by omega
      have t1 : (n1 : Int) ≤ (k : Int) := by have := hD.out; omega
      have t2 : (n2 : Int) ≤ (k : Int) := by have := hD.out; omega
      have kb : k ≤ 100000 := by have := hD.out; omega
      have hlt' : Hid (∀ i, (Pl.fn F k).getD i 0 < 256) := fn_lt (fun i => by rw [hF.out]; exact Gf.xor_lt (x2.out i) (y2.out i)) k
      go_wp2_with (fail)
      refine (reftrimB_any a' k c' (Pl.fn F k) hlt'.out kb _ hrd'.out).mono ?_
      rintro e w2 ⟨⟨a3, m3, c3, rfl, hr3, hba⟩, hb3⟩
      have hba' : Hid (∀ x, a3 = some x → w.heap.size ≤ x.block) := fun x e => Nat.le_trans hb.out.size (hba x e)
      clear hba
      have hr3' := hidIt hr3
      have hb4 := hidIt (hb.out.trans (hb3.mono hb.out.size))
      clear hr3 hb3
      go_wp2
      go_ret
      exact ⟨⟨_, _, _, rfl, by rw [hpl.out]; exact hr3'.out, hba'.out⟩, hb4.out⟩
end Go.Proofs.Ytcnjcfmgkkghjaa
