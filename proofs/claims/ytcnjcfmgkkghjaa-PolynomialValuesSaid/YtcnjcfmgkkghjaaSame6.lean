import Derived.Test.YtcnjcfmgkkghjaaRoot
namespace Go.Proofs.Ytcnjcfmgkkghjaa
open Go.RowKit
theorem ofStr_str6 {xs : List Nat} (h : ∀ i, xs.getD i 0 < 256) : ofStr (str xs) = xs := by
  unfold ofStr str
  simp only [List.map_map]
  apply List.ext_getElem
  · simp
  · intro i h1 h2
    have := h i
    rw [List.getD_eq_getElem?_getD, List.getElem?_eq_getElem h2] at this
    simp at this ⊢
    omega
theorem str_eq_of {a b : ByteArray} (h : ofStr a = ofStr b) : a = b := by rw [← str_ofStr a, h, str_ofStr]
theorem str_beq6 (a b : ByteArray) : (a.toList == b.toList) = decide (ofStr a = ofStr b) := by
  by_cases h : a = b
  · subst h; simp
  · have h1 : ¬ ofStr a = ofStr b := fun e => h (str_eq_of e)
    have h2 : ¬ a.toList = b.toList := fun e => h (by rw [ByteArray.toList_eq, ByteArray.toList_eq] at e; cases a; cases b; simp only [ByteArray.mk.injEq]; exact Array.toList_inj.1 e)
    simp [h1, h2]
theorem refsame_any (a1 a2 : Option Addr) (n1 n2 c1 c2 : Nat) (xs ys : List Nat) (hn : n1 = xs.length) (hm : n2 = ys.length) (hx : ∀ i, xs.getD i 0 < 256) (hy : ∀ i, ys.getD i 0 < 256) (w : World) (h1 : Bytes w a1 xs) (h2 : Bytes w a2 ys) :
    Calls Try.prog 43 #[.slice a1 n1 c1, .slice a2 n2 c2] w fun e w' => e = .returned (.bool (decide (xs = ys))) ∧ w = w' := by
  have k1 := conv_str w a1 n1 c1 xs hn h1
  have k2 := conv_str w a2 n2 c2 ys hm h2
  obtain ⟨s1, hs1⟩ : ∃ s, Hid (s = str xs) := ⟨_, rfl⟩
  obtain ⟨s2, hs2⟩ : ∃ s, Hid (s = str ys) := ⟨_, rfl⟩
  rw [← hs1.out] at k1
  rw [← hs2.out] at k2
  have hx2 := hidIt hx
  have hy2 := hidIt hy
  clear hn hm hx hy h1 h2
  go_enter Try.func43, Try.ntmps43
  go_wp2
  go_ret
  refine ⟨?_, rfl⟩
  show Ending.returned (.bool (s1.toList == s2.toList)) = _
  rw [str_beq6, hs1.out, hs2.out, ofStr_str6 hx2.out, ofStr_str6 hy2.out]
theorem same6_any (a1 a2 : Option Addr) (n1 n2 c1 c2 : Nat) (xs ys : List Nat) (v : Bool) (hn : n1 = xs.length) (hm : n2 = ys.length) (hx : ∀ i, xs.getD i 0 < 256) (hy : ∀ i, ys.getD i 0 < 256) (hv : decide (xs = ys) = v) (w : World) (h1 : Bytes w a1 xs) (h2 : Bytes w a2 ys) :
    Calls Try.prog 15 #[.slice a1 n1 c1, .slice a2 n2 c2] w fun e w' => e = .returned (.bool v) ∧ w = w' := by
  have n1' := hidIt hn
  have n2' := hidIt hm
  have x2 := hidIt hx
  have y2 := hidIt hy
  have i1 := hidIt h1
  have i2 := hidIt h2
  have v2 := hidIt hv
  clear hn hm hx hy h1 h2 hv
  go_enter Try.func15, Try.ntmps15
  go_wp2_with (fail)
  refine (refsame_any _ _ _ _ _ _ xs ys n1'.out n2'.out x2.out y2.out _ i1.out i2.out).mono ?_
  rintro e w' ⟨rfl, rfl⟩
  rw [v2.out]
  go_wp2
  go_ret
  exact ⟨rfl, rfl⟩
end Go.Proofs.Ytcnjcfmgkkghjaa
