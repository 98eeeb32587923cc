import Derived.Test.YtfdbdhknamkipaaGo
namespace Go.Proofs.Ytfdbdhknamkipaa
open Go.RowKit
def zeroV (kind most : Int) : RV := ⟨kind, 0, 0, false, ByteArray.empty, most⟩
/-- what a read of a kind finds at a place: the error, or the value and the place behind it -/
def rdV (bs : List Nat) (kind most : Int) (pos : Nat) : Sum Nat (RV × Nat) :=
  if kind = 1 then (match En.num (bs.drop pos) with | some (n, k) => .inr (⟨1, n, 0, false, ByteArray.empty, most⟩, pos + k) | none => .inl 3)
  else if kind = 2 then (match En.num (bs.drop pos) with | some (n, k) => .inr (⟨2, 0, unzig n, false, ByteArray.empty, most⟩, pos + k) | none => .inl 3)
  else if kind = 3 then (match boolAt bs pos with | some v => .inr (⟨3, 0, 0, v, ByteArray.empty, most⟩, pos + 1) | none => .inl 3)
  else if kind = 4 ∨ kind = 5 then (match measure bs pos most with | .inr (at', n) => .inr (⟨kind, 0, 0, false, str ((bs.drop at').take n), most⟩, at' + n) | .inl er => .inl er)
  else if kind = 6 then (match sumAt bs pos with | .inr (at', n) => .inr (⟨6, 0, 0, false, str ((bs.drop at').take n), most⟩, at' + n) | .inl er => .inl er)
  else (match limit bs pos most with | .inr (n, k) => .inr (⟨7, 0, n, false, ByteArray.empty, most⟩, pos + k) | .inl er => .inl er)
/-- a read: the value, and the place, the place before, the error behind it -/
def rstep (bs : List Nat) (kind most : Int) (pos last err : Nat) : RV × Nat × Nat × Nat :=
  if err ≠ 0 then (zeroV kind most, pos, last, err)
  else if kind = 0 then (zeroV kind most, last, last, 3)
  else if kind < 0 ∨ 7 < kind then (zeroV kind most, pos, last, 0)
  else match rdV bs kind most pos with
    | .inl er => (zeroV kind most, pos, pos, er)
    | .inr (v, p) => (v, p, pos, 0)
def GetPost (R : Nat) (a : Option Addr) (cap : Nat) (bs : List Nat) (w : World) (q : RV × Nat × Nat × Nat) (e : Ending) (w' : World) : Prop :=
  e = .returned q.1.val ∧ RD w' R a cap bs q.2.1 q.2.2.1 q.2.2.2 ∧ w.grownBy w' (some R)
theorem rstep_ok {bs : List Nat} {kind most : Int} {pos last : Nat} {v : RV} {p : Nat} (h0 : ¬ kind = 0) (h1 : ¬ (kind < 0 ∨ 7 < kind)) (h : rdV bs kind most pos = .inr (v, p)) : rstep bs kind most pos last 0 = (v, p, pos, 0) := by
  unfold rstep; rw [if_neg (by simp), if_neg h0, if_neg h1, h]
theorem rstep_bad {bs : List Nat} {kind most : Int} {pos last er : Nat} (h0 : ¬ kind = 0) (h1 : ¬ (kind < 0 ∨ 7 < kind)) (h : rdV bs kind most pos = .inl er) : rstep bs kind most pos last 0 = (zeroV kind most, pos, pos, er) := by
  unfold rstep; rw [if_neg (by simp), if_neg h0, if_neg h1, h]
theorem rstep_err {bs : List Nat} {kind most : Int} {pos last err : Nat} (h : err ≠ 0) : rstep bs kind most pos last err = (zeroV kind most, pos, last, err) := by
  unfold rstep; rw [if_pos h]
theorem get_any (R : Nat) (a : Option Addr) (cap : Nat) (bs : List Nat) (pos last err : Nat) (kind most : Int) (hm1 : -9223372036854775808 ≤ most) (hm2 : most ≤ 9223372036854775807) (hsz : bs.length ≤ 140737488355328) (hb : ∀ x ∈ bs, x < 256) (w : World) (h : RD w R a cap bs pos last err) :
    Calls Try.prog 16 #[.pointer (some ⟨R, 0, none⟩), .int .i64 kind, .int .i64 most] w (GetPost R a cap bs w (rstep bs kind most pos last err)) := by
  by_cases he : err = 0
  · subst he
    by_cases k0 : kind = 0
    · subst k0
      have e : rstep bs 0 most pos last 0 = (zeroV 0 most, last, last, 3) := by unfold rstep; rw [if_neg (by simp), if_pos rfl]
      rw [e]
      exact get_f R a cap bs pos last 0 last last 3 most (fun W hW => (fail_ok R a cap bs pos last W hW)) w h
    by_cases k1 : kind = 1
    · subst k1
      cases hn : En.num (bs.drop pos) with
      | none =>
        rw [rstep_bad (er := 3) (by decide) (by decide) (by unfold rdV; rw [if_pos rfl, hn])]
        exact get_u R a cap bs pos last 0 pos pos 3 most 0 (fun W hW => by have := rUint_any R a cap bs pos last W hW hb; rw [hn] at this; exact this.mono fun e w' ⟨hg, he, hr⟩ => ⟨he, hr, hg⟩) w h
      | some q =>
        obtain ⟨n, k⟩ := q
        rw [rstep_ok (v := ⟨1, n, 0, false, ByteArray.empty, most⟩) (p := pos + k) (by decide) (by decide) (by unfold rdV; rw [if_pos rfl, hn])]
        exact get_u R a cap bs pos last 0 (pos + k) pos 0 most n (fun W hW => by have := rUint_any R a cap bs pos last W hW hb; rw [hn] at this; exact this.mono fun e w' ⟨hg, he, hr⟩ => ⟨he, hr, hg⟩) w h
    by_cases k2 : kind = 2
    · subst k2
      cases hn : En.num (bs.drop pos) with
      | none =>
        rw [rstep_bad (er := 3) (by decide) (by decide) (by unfold rdV; rw [if_neg (by decide), if_pos rfl, hn])]
        exact get_i R a cap bs pos last 0 pos pos 3 most 0 (fun W hW => by have := rInt_any R a cap bs pos last W hW hb; rw [hn] at this; exact this.mono fun e w' ⟨hg, he, hr⟩ => ⟨he, hr, hg⟩) w h
      | some q =>
        obtain ⟨n, k⟩ := q
        rw [rstep_ok (v := ⟨2, 0, unzig n, false, ByteArray.empty, most⟩) (p := pos + k) (by decide) (by decide) (by unfold rdV; rw [if_neg (by decide), if_pos rfl, hn])]
        exact get_i R a cap bs pos last 0 (pos + k) pos 0 most (unzig n) (fun W hW => by have := rInt_any R a cap bs pos last W hW hb; rw [hn] at this; exact this.mono fun e w' ⟨hg, he, hr⟩ => ⟨he, hr, hg⟩) w h
    by_cases k3 : kind = 3
    · subst k3
      cases hn : boolAt bs pos with
      | none =>
        rw [rstep_bad (er := 3) (by decide) (by decide) (by unfold rdV; rw [if_neg (by decide), if_neg (by decide), if_pos rfl, hn])]
        exact get_b R a cap bs pos last 0 pos pos 3 most false (fun W hW => by have := rBool_any R a cap bs pos last W hW; rw [hn] at this; exact this.mono fun e w' ⟨hg, he, hr⟩ => ⟨he, hr, hg⟩) w h
      | some v =>
        rw [rstep_ok (v := ⟨3, 0, 0, v, ByteArray.empty, most⟩) (p := pos + 1) (by decide) (by decide) (by unfold rdV; rw [if_neg (by decide), if_neg (by decide), if_pos rfl, hn])]
        exact get_b R a cap bs pos last 0 (pos + 1) pos 0 most v (fun W hW => by have := rBool_any R a cap bs pos last W hW; rw [hn] at this; exact this.mono fun e w' ⟨hg, he, hr⟩ => ⟨he, hr, hg⟩) w h
    by_cases k4 : kind = 4
    · subst k4
      cases hn : measure bs pos most with
      | inl er =>
        rw [rstep_bad (er := er) (by decide) (by decide) (by unfold rdV; rw [if_neg (by decide), if_neg (by decide), if_neg (by decide), if_pos (Or.inl rfl), hn])]
        exact get_x R a cap bs pos last 0 pos pos er most [] (fun W hW => by have := rBytes_any R a cap bs pos last most hm1 hm2 W hsz hW hb; rw [hn] at this; exact this.mono fun e w' ⟨hg, he, hr⟩ => ⟨none, 0, he, fun i hi => absurd hi (by simp), hr, hg⟩) w h
      | inr q =>
        obtain ⟨at', n⟩ := q
        rw [rstep_ok (v := ⟨4, 0, 0, false, str ((bs.drop at').take n), most⟩) (p := at' + n) (by decide) (by decide) (by unfold rdV; rw [if_neg (by decide), if_neg (by decide), if_neg (by decide), if_pos (Or.inl rfl), hn])]
        exact get_x R a cap bs pos last 0 (at' + n) pos 0 most ((bs.drop at').take n) (fun W hW => by
          have := rBytes_any R a cap bs pos last most hm1 hm2 W hsz hW hb
          rw [hn] at this
          exact this.mono fun e w' ⟨hg, a', c', he, ho, hr⟩ => by
            have hl : n = ((bs.drop at').take n).length := by have := ho.1; rw [vals_len] at this; omega
            obtain ⟨a2, c2, hv, hB, -⟩ := owned_bytes ho hl
            exact ⟨a2, c2, by rw [he, hv], hB, hr, hg⟩) w h
    by_cases k5 : kind = 5
    · subst k5
      cases hn : measure bs pos most with
      | inl er =>
        rw [rstep_bad (er := er) (by decide) (by decide) (by unfold rdV; rw [if_neg (by decide), if_neg (by decide), if_neg (by decide), if_pos (Or.inr rfl), hn])]
        exact get_t R a cap bs pos last 0 pos pos er most ByteArray.empty (fun W hW => by have := rText_any R a cap bs pos last most hm1 hm2 W hW hb; rw [hn] at this; exact this.mono fun e w' ⟨hg, he, hr⟩ => ⟨he, hr, hg⟩) w h
      | inr q =>
        obtain ⟨at', n⟩ := q
        rw [rstep_ok (v := ⟨5, 0, 0, false, str ((bs.drop at').take n), most⟩) (p := at' + n) (by decide) (by decide) (by unfold rdV; rw [if_neg (by decide), if_neg (by decide), if_neg (by decide), if_pos (Or.inr rfl), hn])]
        exact get_t R a cap bs pos last 0 (at' + n) pos 0 most (str ((bs.drop at').take n)) (fun W hW => by have := rText_any R a cap bs pos last most hm1 hm2 W hW hb; rw [hn] at this; exact this.mono fun e w' ⟨hg, he, hr⟩ => ⟨he, hr, hg⟩) w h
    by_cases k6 : kind = 6
    · subst k6
      cases hn : sumAt bs pos with
      | inl er =>
        rw [rstep_bad (er := er) (by decide) (by decide) (by unfold rdV; rw [if_neg (by decide), if_neg (by decide), if_neg (by decide), if_neg (by decide), if_pos rfl, hn])]
        exact get_s R a cap bs pos last 0 pos pos er most ByteArray.empty (fun W hW => by have := rSum_any R a cap bs pos last W hW; rw [hn] at this; exact this.mono fun e w' ⟨hg, he, hr⟩ => ⟨he, hr, hg⟩) w h
      | inr q =>
        obtain ⟨at', n⟩ := q
        rw [rstep_ok (v := ⟨6, 0, 0, false, str ((bs.drop at').take n), most⟩) (p := at' + n) (by decide) (by decide) (by unfold rdV; rw [if_neg (by decide), if_neg (by decide), if_neg (by decide), if_neg (by decide), if_pos rfl, hn])]
        exact get_s R a cap bs pos last 0 (at' + n) pos 0 most (str ((bs.drop at').take n)) (fun W hW => by have := rSum_any R a cap bs pos last W hW; rw [hn] at this; exact this.mono fun e w' ⟨hg, he, hr⟩ => ⟨he, hr, hg⟩) w h
    by_cases k7 : kind = 7
    · subst k7
      cases hn : limit bs pos most with
      | inl er =>
        rw [rstep_bad (er := er) (by decide) (by decide) (by unfold rdV; rw [if_neg (by decide), if_neg (by decide), if_neg (by decide), if_neg (by decide), if_neg (by decide), hn])]
        exact get_n R a cap bs pos last 0 pos pos er most 0 (fun W hW => by have := rCount_any R a cap bs pos last most hm1 hm2 W hW hb; rw [hn] at this; exact this.mono fun e w' ⟨hg, he, hr⟩ => ⟨he, hr, hg⟩) w h
      | inr q =>
        obtain ⟨n, k⟩ := q
        rw [rstep_ok (v := ⟨7, 0, n, false, ByteArray.empty, most⟩) (p := pos + k) (by decide) (by decide) (by unfold rdV; rw [if_neg (by decide), if_neg (by decide), if_neg (by decide), if_neg (by decide), if_neg (by decide), hn])]
        exact get_n R a cap bs pos last 0 (pos + k) pos 0 most n (fun W hW => by have := rCount_any R a cap bs pos last most hm1 hm2 W hW hb; rw [hn] at this; exact this.mono fun e w' ⟨hg, he, hr⟩ => ⟨he, hr, hg⟩) w h
    · have e : rstep bs kind most pos last 0 = (zeroV kind most, pos, last, 0) := by unfold rstep; rw [if_neg (by simp), if_neg k0, if_pos (by omega)]
      rw [e]
      exact get_o kind ⟨k0, k1, k2, k3, k4, k5, k6, k7⟩ R a cap bs pos last 0 most w h
  · rw [rstep_err he]
    by_cases k0 : kind = 0
    · subst k0
      exact get_f R a cap bs pos last err pos last err most (fun W hW => (fail_err R a cap bs pos last err he W hW).mono fun e w' ⟨h1, h2⟩ => by subst h2; exact ⟨h1, hW, g_refl _ _⟩) w h
    by_cases k1 : kind = 1
    · subst k1
      exact get_u R a cap bs pos last err pos last err most 0 (fun W hW => (rUint_err R a cap bs pos last err he W hW).mono fun e w' ⟨h1, h2, h3⟩ => ⟨h1, h2, g_below h3⟩) w h
    by_cases k2 : kind = 2
    · subst k2
      exact get_i R a cap bs pos last err pos last err most 0 (fun W hW => (rInt_err R a cap bs pos last err he W hW).mono fun e w' ⟨h1, h2, h3⟩ => ⟨h1, h2, g_below h3⟩) w h
    by_cases k3 : kind = 3
    · subst k3
      exact get_b R a cap bs pos last err pos last err most false (fun W hW => (rBool_err R a cap bs pos last err he W hW).mono fun e w' ⟨h1, h2, h3⟩ => ⟨h1, h2, g_below h3⟩) w h
    by_cases k4 : kind = 4
    · subst k4
      exact get_x R a cap bs pos last err pos last err most [] (fun W hW => (rBytes_err R a cap bs pos last err most he W hW).mono fun e w' ⟨h1, h2, h3⟩ => ⟨none, 0, h1, fun i hi => absurd hi (by simp), h2, g_below h3⟩) w h
    by_cases k5 : kind = 5
    · subst k5
      exact get_t R a cap bs pos last err pos last err most ByteArray.empty (fun W hW => (rText_err R a cap bs pos last err most he W hW).mono fun e w' ⟨h1, h2, h3⟩ => ⟨h1, h2, g_below h3⟩) w h
    by_cases k6 : kind = 6
    · subst k6
      exact get_s R a cap bs pos last err pos last err most ByteArray.empty (fun W hW => (rSum_err R a cap bs pos last err he W hW).mono fun e w' ⟨h1, h2, h3⟩ => ⟨h1, h2, g_below h3⟩) w h
    by_cases k7 : kind = 7
    · subst k7
      exact get_n R a cap bs pos last err pos last err most 0 (fun W hW => (rCount_err R a cap bs pos last err most he W hW).mono fun e w' ⟨h1, h2, h3⟩ => ⟨h1, h2, g_below h3⟩) w h
    · exact get_o kind ⟨k0, k1, k2, k3, k4, k5, k6, k7⟩ R a cap bs pos last err most w h
end Go.Proofs.Ytfdbdhknamkipaa
