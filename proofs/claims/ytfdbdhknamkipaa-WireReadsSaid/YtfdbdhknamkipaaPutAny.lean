import Derived.Test.YtfdbdhknamkipaaPut4
namespace Go.Proofs.Ytfdbdhknamkipaa
open Go.RowKit
/-- what a writer has after a value: the bytes and the error -/
def putStep (p : List Nat × Nat) (v : RV) : List Nat × Nat :=
  if p.2 ≠ 0 then p else match putB v with | .inr ds => (p.1 ++ ds, 0) | .inl er => (p.1, er)
theorem put_any (B : Nat) (p : List Nat × Nat) (v : RV) (hv : v.ok) (hbig : p.1.length + v.s.size + 60 ≤ 140737488355328) (w : World) (h : WR w B p.1 p.2) :
    Calls Try.prog 22 #[.pointer (some ⟨B, 0, none⟩), v.val] w fun e w' => e = .returned (.tuple #[]) ∧ Below B w w' ∧ WR w' B (putStep p v).1 (putStep p v).2 := by
  obtain ⟨zs, err⟩ := p
  obtain ⟨kind, u, n, b, s, most⟩ := v
  obtain ⟨hu, hn1, hn2, _⟩ := hv
  simp only at hu hn1 hn2 hbig h
  unfold RV.val
  by_cases he : err = 0
  · subst he
    have hst : ∀ ds, putB ⟨kind, u, n, b, s, most⟩ = .inr ds → putStep (zs, 0) ⟨kind, u, n, b, s, most⟩ = (zs ++ ds, 0) := fun ds e => by unfold putStep; rw [if_neg (by simp), e]
    have hse : ∀ er, putB ⟨kind, u, n, b, s, most⟩ = .inl er → putStep (zs, 0) ⟨kind, u, n, b, s, most⟩ = (zs, er) := fun er e => by unfold putStep; rw [if_neg (by simp), e]
    by_cases k1 : kind = 1
    · subst k1; rw [hst (En.enc u) (by simp [putB])]; exact put_1 B zs u n b s most hu (by omega) w h
    by_cases k2 : kind = 2
    · subst k2; rw [hst (En.enc (zig n)) (by simp [putB])]; exact put_2 B zs u n b s most hn1 hn2 (by omega) w h
    by_cases k3 : kind = 3
    · subst k3
      cases b
      · rw [hst [0] (by simp [putB])]; exact put_3false B zs u n s most (by omega) w h
      · rw [hst [1] (by simp [putB])]; exact put_3true B zs u n s most (by omega) w h
    by_cases k4 : kind = 4
    · subst k4; rw [hst (En.enc s.size ++ ofStr s) (by simp [putB]), ← List.append_assoc]; exact put_4 B zs u n b s most (by omega) w h
    by_cases k5 : kind = 5
    · subst k5; rw [hst (En.enc s.size ++ ofStr s) (by simp [putB]), ← List.append_assoc]; exact put_5 B zs u n b s most (by omega) w h
    by_cases k6 : kind = 6
    · subst k6
      by_cases hs : s.size = 32
      · rw [hst (ofStr s) (by simp [putB, hs])]; exact put_6 B zs u n b s most hs (by omega) w h
      · rw [hse 1 (by simp [putB, hs])]; exact put_6bad B zs u n b s most hs w h
    by_cases k7 : kind = 7
    · subst k7
      by_cases hn : n < 0
      · rw [hse 1 (by simp [putB, hn])]; exact put_7bad B zs u n b s most hn w h
      · obtain ⟨m, rfl⟩ : ∃ m : Nat, n = m := ⟨n.toNat, by omega⟩
        rw [hst (En.enc m) (by simp [putB])]; exact put_7 B zs u b s most m (by omega) (by omega) w h
    · rw [hst [] (by simp [putB, k1, k2, k3, k4, k5, k6, k7]), List.append_nil]
      exact put_else B zs kind u n b s most ⟨k1, k2, k3, k4, k5, k6, k7⟩ w h
  · rw [show putStep (zs, err) ⟨kind, u, n, b, s, most⟩ = (zs, err) by unfold putStep; rw [if_pos he]]
    by_cases k1 : kind = 1
    · subst k1; exact pute_1 B err he zs u n b s most w h
    by_cases k2 : kind = 2
    · subst k2; exact pute_2 B err he zs u n b s most hn1 hn2 w h
    by_cases k3 : kind = 3
    · subst k3; exact pute_3 B err he zs u n b s most w h
    by_cases k4 : kind = 4
    · subst k4; exact pute_4 B err he zs u n b s most (by omega) w h
    by_cases k5 : kind = 5
    · subst k5; exact pute_5 B err he zs u n b s most (by omega) w h
    by_cases k6 : kind = 6
    · subst k6; exact pute_6 B err he zs u n b s most w h
    by_cases k7 : kind = 7
    · subst k7; exact pute_7 B err he zs u n b s most w h
    · exact pute_else B err he zs kind u n b s most ⟨k1, k2, k3, k4, k5, k6, k7⟩ w h
end Go.Proofs.Ytfdbdhknamkipaa
