import Derived.Test.YtfdbdhknamkipaaRdS
import Derived.BigQuiet
namespace Go.Proofs.Ytfdbdhknamkipaa
open Go.RowKit
theorem rdV_1 {bs : List Nat} {most : Int} {pos : Nat} : rdV bs 1 most pos = (match En.num (bs.drop pos) with | some (n, k) => .inr (⟨1, n, 0, false, ByteArray.empty, most⟩, pos + k) | none => .inl 3) := by unfold rdV; rw [if_pos rfl]; rfl
theorem rdV_2 {bs : List Nat} {most : Int} {pos : Nat} : rdV bs 2 most pos = (match En.num (bs.drop pos) with | some (n, k) => .inr (⟨2, 0, unzig n, false, ByteArray.empty, most⟩, pos + k) | none => .inl 3) := by unfold rdV; rw [if_neg (by decide), if_pos rfl]; rfl
theorem rdV_3 {bs : List Nat} {most : Int} {pos : Nat} : rdV bs 3 most pos = (match boolAt bs pos with | some v => .inr (⟨3, 0, 0, v, ByteArray.empty, most⟩, pos + 1) | none => .inl 3) := by unfold rdV; rw [if_neg (by decide), if_neg (by decide), if_pos rfl]; rfl
theorem rdV_4 {bs : List Nat} {kind most : Int} {pos : Nat} (h : kind = 4 ∨ kind = 5) : rdV bs kind most pos = (match measure bs pos most with | .inr (at', n) => .inr (⟨kind, 0, 0, false, str ((bs.drop at').take n), most⟩, at' + n) | .inl er => .inl er) := by unfold rdV; rw [if_neg (by omega), if_neg (by omega), if_neg (by omega), if_pos h]; rfl
theorem rdV_6 {bs : List Nat} {most : Int} {pos : Nat} : rdV bs 6 most pos = (match sumAt bs pos with | .inr (at', n) => .inr (⟨6, 0, 0, false, str ((bs.drop at').take n), most⟩, at' + n) | .inl er => .inl er) := by unfold rdV; rw [if_neg (by decide), if_neg (by decide), if_neg (by decide), if_neg (by decide), if_pos rfl]; rfl
theorem rdV_7 {bs : List Nat} {most : Int} {pos : Nat} : rdV bs 7 most pos = (match limit bs pos most with | .inr (n, k) => .inr (⟨7, 0, n, false, ByteArray.empty, most⟩, pos + k) | .inl er => .inl er) := by unfold rdV; rw [if_neg (by decide), if_neg (by decide), if_neg (by decide), if_neg (by decide), if_neg (by decide)]; rfl
theorem limit_none {bs : List Nat} {pos : Nat} {most : Int} (h : En.num (bs.drop pos) = none) : limit bs pos most = .inl 3 := by unfold limit; rw [h]
theorem limit_some {bs : List Nat} {pos n k : Nat} {most : Int} (h : En.num (bs.drop pos) = some (n, k)) : limit bs pos most = if max most 0 < (n : Int) then .inl 2 else .inr (n, k) := by unfold limit; rw [h]
theorem refread_any (a : Option Addr) (cap : Nat) (bs : List Nat) (pos : Nat) (kind most : Int) (k1 : 1 ≤ kind) (k7 : kind ≤ 7) (hm2 : most ≤ 9223372036854775807) (hpos : pos ≤ bs.length) (hsz : bs.length ≤ 1000) (hcap : bs.length ≤ cap) (hlt : ∀ x ∈ bs, x < 256) (w : World) (h : Bytes w a bs) :
    Calls Try.prog 39 #[.slice a bs.length cap, .int .i64 pos, .int .i64 kind, .int .i64 most] w fun e w' => e = readE (readV bs kind most pos) ∧ Below w.heap.size w w' := by
  by_cases c6 : kind = 6
  · subst c6
    by_cases hs : bs.length - pos < 32
    · rw [readV_bad (er := 3) (by rw [rdV_6]; unfold sumAt; rw [if_pos hs])]
      exact refread_6short a cap bs pos most hpos hs w
    · rw [readV_ok (v := ⟨6, 0, 0, false, str ((bs.drop pos).take 32), most⟩) (p := pos + 32) (by rw [rdV_6]; unfold sumAt; rw [if_neg hs])]
      exact refread_6 a cap bs pos most hsz hcap (by omega) w h
  by_cases c3 : kind = 3
  · subst c3
    cases hb : boolAt bs pos with
    | none =>
      rw [readV_bad (er := 3) (by rw [rdV_3, hb])]
      exact refread_3bad a cap bs pos most hsz hcap hb hpos w h
    | some v =>
      rw [readV_ok (v := ⟨3, 0, 0, v, ByteArray.empty, most⟩) (p := pos + 1) (by rw [rdV_3, hb])]
      exact refread_3 a cap bs pos most v hsz hcap hb w h
  cases hn : En.num (bs.drop pos) with
  | none =>
    have e : rdV bs kind most pos = .inl 3 := by
      by_cases c1 : kind = 1
      · subst c1; rw [rdV_1, hn]
      by_cases c2 : kind = 2
      · subst c2; rw [rdV_2, hn]
      by_cases c4 : kind = 4 ∨ kind = 5
      · rw [rdV_4 c4]; unfold measure; rw [limit_none hn]
      · obtain rfl : kind = 7 := by omega
        rw [rdV_7, limit_none hn]
    rw [readV_bad e]
    exact refread_none a cap bs pos kind most hpos hsz hcap hlt c3 c6 hn w h
  | some q =>
    obtain ⟨n, k⟩ := q
    by_cases c1 : kind = 1
    · subst c1
      rw [readV_ok (v := ⟨1, n, 0, false, ByteArray.empty, most⟩) (p := pos + k) (by rw [rdV_1, hn])]
      exact refread_1 a cap bs pos most hpos hsz hcap hlt n k hn w h
    by_cases c2 : kind = 2
    · subst c2
      rw [readV_ok (v := ⟨2, 0, unzig n, false, ByteArray.empty, most⟩) (p := pos + k) (by rw [rdV_2, hn])]
      exact refread_2 a cap bs pos most hpos hsz hcap hlt n k hn w h
    by_cases hbig : max most 0 < (n : Int)
    · have e : rdV bs kind most pos = .inl 2 := by
        by_cases c4 : kind = 4 ∨ kind = 5
        · rw [rdV_4 c4]; unfold measure; rw [limit_some hn, if_pos hbig]
        · obtain rfl : kind = 7 := by omega
          rw [rdV_7, limit_some hn, if_pos hbig]
      rw [readV_bad e]
      exact refread_big a cap bs pos kind most hm2 hpos hsz hcap hlt c1 c2 c3 c6 n k hn hbig w h
    by_cases c7 : kind = 7
    · subst c7
      rw [readV_ok (v := ⟨7, 0, n, false, ByteArray.empty, most⟩) (p := pos + k) (by rw [rdV_7, limit_some hn, if_neg hbig])]
      exact refread_7 a cap bs pos most hm2 hpos hsz hcap hlt n k hn hbig w h
    have c4 : kind = 4 ∨ kind = 5 := by omega
    by_cases hsh : bs.length - (pos + k) < n
    · rw [readV_bad (er := 3) (by rw [rdV_4 c4]; unfold measure; rw [limit_some hn, if_neg hbig]; show (match (if _ then _ else _ : Sum Nat (Nat × Nat)) with | .inr (at', n) => _ | .inl er => _) = _; rw [if_pos hsh])]
      exact refread_short a cap bs pos kind most hm2 hpos hsz hcap hlt c1 c2 c3 c6 c7 n k hn hbig hsh w h
    · rw [readV_ok (v := ⟨kind, 0, 0, false, str ((bs.drop (pos + k)).take n), most⟩) (p := pos + k + n) (by rw [rdV_4 c4]; unfold measure; rw [limit_some hn, if_neg hbig]; show (match (if _ then _ else _ : Sum Nat (Nat × Nat)) with | .inr (at', n) => _ | .inl er => _) = _; rw [if_neg hsh])]
      by_cases hcp : cap = pos + k
      · exact refread_45z a cap bs pos kind most hm2 hpos hsz hcap hlt c1 c2 c3 c6 c7 n k hn hbig hsh hcp w h
      · exact refread_45 a cap bs pos kind most hm2 hpos hsz hcap hlt c1 c2 c3 c6 c7 n k hn hbig hsh hcp w h
/-- a reader of the reference in the block X -/
structure RX (w : World) (X : Nat) (a : Option Addr) (cap : Nat) (bs : List Nat) (pos last err : Nat) : Prop where
  row : w.heap[X]? = some (.cells #[.slice a bs.length cap, .int .i64 pos, .int .i64 last, .int .i64 err] 34 (0, 0))
  by' : Bytes w a bs
  ne : ∀ x, a = some x → x.block < X ∨ bs.length = 0
  le : pos ≤ bs.length
  lastle : last ≤ bs.length
theorem RX.below {w w' : World} {X : Nat} {a : Option Addr} {cap : Nat} {bs : List Nat} {pos last err : Nat} (h : RX w X a cap bs pos last err) (hb : Below w.heap.size w w') : RX w' X a cap bs pos last err :=
  ⟨(hb.block X (lt_of_row h.row)).trans h.row, Bytes.below h.by' hb, h.ne, h.le, h.lastle⟩
theorem RX.c {w : World} {X : Nat} {a : Option Addr} {cap : Nat} {bs : List Nat} {pos last err : Nat} (h : RX w X a cap bs pos last err) :
    w.cell? ⟨X, 0, none⟩ = some (.slice a bs.length cap) ∧ w.cell? ⟨X, 1, none⟩ = some (.int .i64 pos) ∧ w.cell? ⟨X, 2, none⟩ = some (.int .i64 last) ∧ w.cell? ⟨X, 3, none⟩ = some (.int .i64 err) ∧ w.frozen? ⟨X, 1, none⟩ = false ∧ w.frozen? ⟨X, 2, none⟩ = false ∧ w.frozen? ⟨X, 3, none⟩ = false :=
  ⟨by rw [cell_of_row w X 0 _ _ _ h.row]; rfl, by rw [cell_of_row w X 1 _ _ _ h.row]; rfl, by rw [cell_of_row w X 2 _ _ _ h.row]; rfl, by rw [cell_of_row w X 3 _ _ _ h.row]; rfl, frozen_of_row w X 1 _ _ h.row, frozen_of_row w X 2 _ _ h.row, frozen_of_row w X 3 _ _ h.row⟩
/-- where the reference's reader ends -/
def endX (bs : List Nat) (pos err : Nat) : Nat := if err = 0 ∧ pos < bs.length then 3 else err
set_option maxRecDepth 100000 in
set_option maxHeartbeats 4000000 in
theorem refend_any (X : Nat) (a : Option Addr) (cap : Nat) (bs : List Nat) (pos last err : Nat) (w : World) (h : RX w X a cap bs pos last err) :
    Calls Try.prog 20 #[.pointer (some ⟨X, 0, none⟩)] w fun e w' => e = .returned (.tuple #[.int .i64 pos, .int .i64 (endX bs pos err)]) ∧ Below w.heap.size w w' := by
  obtain ⟨c0, c1, c2, c3, -, -, -⟩ := h.c
  clear h
  by_cases he : err = 0
  · subst he
    by_cases hp : pos < bs.length
    · have ee : endX bs pos 0 = 3 := by unfold endX; rw [if_pos ⟨rfl, hp⟩]
      rw [ee]
      have t1 : (pos : Int) < (bs.length : Int) := by omega
      go_enter Try.func20, Try.ntmps20
      go_wp2_with (fail)
      go_quiet (fail)
      go_wp2_with (fail)
      go_ret2
      exact ⟨rfl, below_drewN (Below.refl _ _) _⟩
    · have ee : endX bs pos 0 = 0 := by unfold endX; rw [if_neg (by omega)]
      rw [ee]
      have t1 : ¬ (pos : Int) < (bs.length : Int) := by omega
      go_enter Try.func20, Try.ntmps20
      go_wp2_with (fail)
      go_quiet (fail)
      go_wp2_with (fail)
      go_quiet (fail)
      go_wp2_with (fail)
      go_ret2
      exact ⟨rfl, below_drewN (below_drewN (Below.refl _ _) _) _⟩
  · have ee : endX bs pos err = err := by unfold endX; rw [if_neg (by omega)]
    rw [ee]
    have t1 : ¬ (err : Int) = 0 := by omega
    go_enter Try.func20, Try.ntmps20
    go_wp2_with (fail)
    go_quiet (fail)
    go_wp2_with (fail)
    go_quiet (fail)
    go_wp2_with (fail)
    go_ret2
    exact ⟨rfl, below_drewN (below_drewN (Below.refl _ _) _) _⟩
end Go.Proofs.Ytfdbdhknamkipaa
