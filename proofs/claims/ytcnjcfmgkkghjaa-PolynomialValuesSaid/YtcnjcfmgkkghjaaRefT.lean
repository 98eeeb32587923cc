import Derived.Test.YtcnjcfmgkkghjaaLawB
namespace Go.Proofs.Ytcnjcfmgkkghjaa
open Go.RowKit
theorem sliceHeadO (a : Option Addr) (len cap m : Nat) (hc : m ≤ cap) : ∃ a', (∀ W : World, (Instr.slice 22 (.slice a len cap) none (some (.int .i64 (m : Int))) none).run Try.prog W = .ok (.slice a' m cap) W) ∧ (∀ b off, a = some ⟨b, off, none⟩ → a' = a) ∧ (a' = none → a = none) := by
  refine ⟨if cap = 0 then a else a.map (·.add (0 * 1)), fun W => ?_, ?_, ?_⟩
  · have h := run_slice_h W 22 a len cap (P := Try.prog) (by kernel_rfl) .i64 (m : Int) (by omega) (by omega)
    rw [h]
    have e2 : (sizeOf (Try.prog.elem 22)).run Try.prog W = .ok 1 W := by kernel_rfl
    rw [e2]
    simp only [Result.andThen, sliced, Int.toNat_natCast]
    simp
  · rintro b off rfl
    split
    · rfl
    · simp [Addr.add]
  · intro h
    split at h
    · exact h
    · cases a with
      | none => rfl
      | some x => cases h
/-- a slice that reads as l, with what an append of it asks -/
structure Rd (w : World) (a : Option Addr) (m c : Nat) (l : List Nat) : Prop where
  len : m = l.length
  bytes : Bytes w a l
  nil : a = none → c = 0 ∧ l = []
  cap : m ≤ c
theorem Rd.below {w w' : World} {a : Option Addr} {m c : Nat} {l : List Nat} (h : Rd w a m c l) (hb : Below w.heap.size w w') : Rd w' a m c l := ⟨h.len, h.bytes.below hb, h.nil, h.cap⟩
theorem own_rd {w : World} {base n : Nat} {v : Value} {l : List Nat} (h : w.ownsRow base 5 1 v n (vals l)) (hn : n = l.length) : ∃ a c, v = .slice a n c ∧ Rd w a n c l := by
  obtain ⟨a, c, rfl, hb, _⟩ := owned_bytes h hn
  refine ⟨a, c, by rw [hn], hn, hb, ?_, ?_⟩
  · intro e
    subst e
    rcases h.2 with ⟨e, h0⟩ | ⟨g, cap, cur, e, _⟩
    · simp only [Value.slice.injEq, true_and] at e
      exact ⟨e.2, List.eq_nil_of_length_eq_zero e.1⟩
    · simp at e
  · rcases h.2 with ⟨e, h0⟩ | ⟨g, cap, cur, e, _, _, h1, _⟩
    · omega
    · simp only [Value.slice.injEq] at e
      have := e.2.2
      omega
set_option maxRecDepth 100000 in
theorem reftrim_any (a : Option Addr) (n c : Nat) (xs : List Nat) (hx : ∀ i, xs.getD i 0 < 256) (hbig : n ≤ 100000) (w : World) (h : Rd w a n c xs) :
    Calls Try.prog 44 #[.slice a n c] w fun e w' => (∃ a' m' c', e = .returned (.slice a' m' c') ∧ Rd w' a' m' c' (Pl.trim xs)) ∧ Below w.heap.size w w' := by
  have hown : Hid ((w.alloc (.cells #[] 5)).ownsRow w.heap.size 5 1 (.slice (some ⟨w.heap.size, 0, none⟩) 0 0) 0 []) := World.ownsRow_made w #[] 0 (Nat.le_refl _) (by unfold maxLen; omega) rfl
  have hb1 : Hid (Below w.heap.size w (w.alloc (.cells #[] 5))) := (Below.refl _ _).alloc (Nat.le_refl _) _
  have hr := hidIt h
  have x2 := hidIt hx
  clear h hx
  go_enter Try.func44, Try.ntmps44
  go_wp2
  go_loop [3] (fun i => ∃ k : Nat, k ≤ n ∧ i = .int .i64 k ∧ Hid (Pl.dn (Pl.co xs) k = Pl.d1 xs)) (fun i => (intOf i).toNat)
  case atStart => exact ⟨n, Nat.le_refl _, rfl, by show _ = _; rw [hr.out.len]; rfl⟩
  case round =>
    obtain ⟨k, hk, rfl, hd⟩ := hrel
    by_cases hgo : 0 < k ∧ xs.getD (k - 1) 0 = 0
    · obtain ⟨m, rfl⟩ : ∃ m, k = m + 1 := ⟨k - 1, by omega⟩
      obtain ⟨b, off, rfl, e1⟩ := hr.out.bytes m (by have := hr.out.len; omega)
      have hz : xs.getD m 0 = 0 := hgo.2
      rw [hz] at e1
      have e3 : ((m + 1 : Nat) : Int) - 1 = (m : Int) := by omega
      have e4 : (m : Int) < (n : Int) := by omega
      obtain ⟨q, hq⟩ : ∃ q, Hid (q = m + 1) := ⟨_, rfl⟩
      rw [← hq.out] at e3
      have e5 : (0 : Int) < (q : Int) := by have := hq.out; omega
      have hz' := hidIt hz
      rw [← hq.out]
      clear hgo hz
      go_wp2
      go_round
      case rel => exact ⟨m, by omega, rfl, by show _ = _; rw [← hd.out]; show _ = if xs.getD m 0 = 0 then _ else _; rw [hz'.out, if_pos rfl]⟩
      case measure => simp [intOf]; have := hq.out; omega
    · have hdk : Hid (k = Pl.d1 xs) := by
        show _ = _
        rw [← hd.out]
        cases k with
        | zero => rfl
        | succ m =>
          have hne : ¬ xs.getD m 0 = 0 := fun e => hgo ⟨by omega, e⟩
          show _ = if xs.getD m 0 = 0 then _ else _
          rw [if_neg hne]
      obtain ⟨a', s1, s2, s3⟩ := sliceHeadO a n c k (by have := hr.out.cap; omega)
      have s2' := hidIt s2
      have s3' := hidIt s3
      have hkl : Hid (k ≤ xs.length) := by have := hr.out.len; show _ ≤ _; omega
      have htl : Hid (k = (Pl.trim xs).length) := by show _ = _; rw [Pl.trim_len]; exact hdk.out
      have hby : Hid (Bytes (w.alloc (.cells #[] 5)) a' (Pl.trim xs)) := by
        have h0 : Bytes w a' (Pl.trim xs) := fun i hi => by
          have hik : i < k := by rw [htl.out]; exact hi
          obtain ⟨b, off, e1, e2⟩ := hr.out.bytes i (by have := hkl.out; omega)
          refine ⟨b, off, (s2'.out b off e1).trans e1, ?_⟩
          rw [e2]
          have := Pl.trim_co xs i
          show _ = some (Value.int .u8 (Pl.co (Pl.trim xs) i : Nat))
          rw [this]
        exact h0.below hb1.out
      have hnil : Hid (a' = none → c = 0 ∧ Pl.trim xs = []) := fun e => by
        obtain ⟨h1, h2⟩ := hr.out.nil (s3'.out e)
        exact ⟨h1, List.eq_nil_of_length_eq_zero (by rw [← htl.out]; have := hkl.out; rw [h2] at this; exact Nat.le_zero.1 this)⟩
      have hsum : Hid (0 + (Pl.trim xs).length ≤ 140737488355328) := by have := htl.out; show _ ≤ _; omega
      clear s2 s3
      by_cases hk0 : k = 0
      · subst hk0
        have sA : ∀ W : World, (Instr.slice 22 (.slice a n c) none (some (.int .i64 0)) none).run Try.prog W = .ok (.slice a' 0 c) W := s1
        go_wp2_with (at_builtin; refine wpList_append_bytes _ rfl _ _ rfl w.heap.size _ 0 [] rfl hown.out a' _ c (Pl.trim xs) rfl htl.out hby.out hnil.out hsum.out hb1.out.size ?_)
        intro v2 w2 hown2 hg2
        have hown3 : w2.ownsRow w.heap.size 5 1 v2 (0 + (Pl.trim xs).length) (vals (Pl.trim xs)) := by simpa using hown2
        obtain ⟨a3, c3, rfl, hrd⟩ := own_rd hown3 (Nat.zero_add _)
        have hrd' := hidIt hrd
        have hb2 : Hid (Below w.heap.size w w2) := hb1.out.grown hg2 hb1.out.size (fun q hq => (hown.out.lt q hq).1)
        clear hown2 hg2 hown3 hrd
        go_wp2
        go_ret
        exact ⟨⟨_, _, _, rfl, hrd'.out⟩, hb2.out⟩
      · obtain ⟨m, rfl⟩ : ∃ m, k = m + 1 := ⟨k - 1, by omega⟩
        obtain ⟨b, off, rfl, e1⟩ := hr.out.bytes m (by have := hkl.out; omega)
        obtain ⟨y, hy⟩ : ∃ y, Hid (xs.getD m 0 = y) := ⟨_, rfl⟩
        rw [hy.out] at e1
        have hy0 : y ≠ 0 := by rw [← hy.out]; exact fun e => hgo ⟨by omega, e⟩
        have hne : ((y : Int) == 0) = false := by simp; omega
        have e3 : ((m + 1 : Nat) : Int) - 1 = (m : Int) := by omega
        have e4 : (m : Int) < (n : Int) := by omega
        obtain ⟨q, hq⟩ : ∃ q, Hid (q = m + 1) := ⟨_, rfl⟩
        rw [← hq.out] at e3 htl s1 hk0 ⊢
        have e5 : (0 : Int) < (q : Int) := by have := hq.out; omega
        clear hgo
        go_wp2_with (at_builtin; refine wpList_append_bytes _ rfl _ _ rfl w.heap.size _ 0 [] rfl hown.out a' _ c (Pl.trim xs) rfl htl.out hby.out hnil.out hsum.out hb1.out.size ?_)
        intro v2 w2 hown2 hg2
        have hown3 : w2.ownsRow w.heap.size 5 1 v2 (0 + (Pl.trim xs).length) (vals (Pl.trim xs)) := by simpa using hown2
        obtain ⟨a3, c3, rfl, hrd⟩ := own_rd hown3 (Nat.zero_add _)
        have hrd' := hidIt hrd
        have hb2 : Hid (Below w.heap.size w w2) := hb1.out.grown hg2 hb1.out.size (fun q hq => (hown.out.lt q hq).1)
        clear hown2 hg2 hown3 hrd
        go_wp2
        go_ret
        exact ⟨⟨_, _, _, rfl, hrd'.out⟩, hb2.out⟩
end Go.Proofs.Ytcnjcfmgkkghjaa
