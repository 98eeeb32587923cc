import Derived.Test.YtfdbdhknamkipaaRow
import Derived.Defers
import Derived.StillTailTactics
namespace Go.Proofs.Ytfdbdhknamkipaa
open Go.RowKit
/-- slices.Clone of bytes, whatever the capacity; not nil, if the address is none that is nil -/
theorem clone2_any (a : Option Addr) (cap base : Nat) (bs : List Nat) (hbig : bs.length ≤ 140737488355328) (w : World) (h : Bytes w a bs) (hbase : base ≤ w.heap.size) :
    Calls Try.prog 33 #[.slice a bs.length cap] w fun e w' => ∃ a' cap', e = .returned (.slice a' bs.length cap') ∧ w'.ownsRow base 5 1 (.slice a' bs.length cap') bs.length (vals bs) ∧ Below w.heap.size w w' := by
  match a, h with
  | none, h =>
    have hnil : bs = [] := by
      cases bs with
      | nil => rfl
      | cons b t => obtain ⟨_, _, h2, _⟩ := h 0 (by simp); cases h2
    subst hnil
    have hq : (binOp .eql 25 (.slice none 0 cap) (.slice none 0 0)).run Try.prog w = .ok (.bool true) w := Lib.run_eql_slice_nil (P := Try.prog) w 25 5 none 0 cap 0 0 Try.underlying25
    go_enter Try.func33, Try.ntmps33
    go_wp2_with (fail)
    go_ret
    exact ⟨none, 0, rfl, World.ownsRow_nil _ _ _ _, Below.refl _ _⟩
  | some x, h =>
    refine (clone_any (some x) cap base bs hbig w h (fun e => by cases e) hbase).mono ?_
    rintro e w' ⟨v, rfl, ho, hb⟩
    obtain ⟨a', cap', rfl, _, _⟩ := owned_bytes ho rfl
    exact ⟨a', cap', rfl, ho, hb⟩
/-- the number whose encoding begins at pos, if it is at most this: the number and the bytes of its encoding; else the error -/
def limit (bs : List Nat) (pos : Nat) (most : Int) : Sum Nat (Nat × Nat) :=
  match En.num (bs.drop pos) with
  | none => .inl 3
  | some (n, k) => if max most 0 < (n : Int) then .inl 2 else .inr (n, k)
/-- the bytes whose encoding begins at pos: where they begin and how many -/
def measure (bs : List Nat) (pos : Nat) (most : Int) : Sum Nat (Nat × Nat) :=
  match limit bs pos most with
  | .inl e => .inl e
  | .inr (n, k) => if bs.length - (pos + k) < n then .inl 3 else .inr (pos + k, n)
theorem limit_err {bs : List Nat} {pos : Nat} {most : Int} {e : Nat} (h : limit bs pos most = .inl e) : e = 2 ∨ e = 3 := by
  unfold limit at h
  split at h
  · simp at h; omega
  · split at h
    · simp at h; omega
    · cases h
theorem measure_err {bs : List Nat} {pos : Nat} {most : Int} {e : Nat} (h : measure bs pos most = .inl e) : e = 2 ∨ e = 3 := by
  unfold measure at h
  split at h
  · rename_i e' he
    simp at h; subst h; exact limit_err he
  · split at h
    · simp at h; omega
    · cases h
theorem limit_ok {bs : List Nat} {pos n k : Nat} {most : Int} (h : limit bs pos most = .inr (n, k)) : (n : Int) ≤ max most 0 ∧ 0 < k ∧ pos + k ≤ bs.length := by
  unfold limit at h
  split at h
  · cases h
  · rename_i n' k' he
    split at h
    · cases h
    · simp at h
      obtain ⟨rfl, rfl⟩ := h
      have := En.num_bd he
      simp at this
      omega
theorem measure_ok {bs : List Nat} {pos n at' : Nat} {most : Int} (h : measure bs pos most = .inr (at', n)) : pos < at' ∧ at' + n ≤ bs.length := by
  unfold measure at h
  split at h
  · cases h
  · rename_i n' k' he
    split at h
    · cases h
    · simp at h
      obtain ⟨rfl, rfl⟩ := h
      have := limit_ok he
      omega
def LimitPost (R : Nat) (a : Option Addr) (cap : Nat) (bs : List Nat) (pos last : Nat) (w : World) (r : Sum Nat (Nat × Nat)) (e : Ending) (w' : World) : Prop :=
  w.grownBy w' (some R) ∧ (match r with
    | .inl er => e = .returned (.tuple #[.int .i64 0, .int .i64 er]) ∧ ∃ p, RD w' R a cap bs p last 0
    | .inr (n, k) => e = .returned (.tuple #[.int .i64 n, .int .i64 0]) ∧ RD w' R a cap bs (pos + k) last 0)
set_option maxRecDepth 100000 in
theorem limited_any (R : Nat) (a : Option Addr) (cap : Nat) (bs : List Nat) (pos last : Nat) (most : Int) (hm1 : -9223372036854775808 ≤ most) (hm2 : most ≤ 9223372036854775807) (w : World) (h : RD w R a cap bs pos last 0) (hb : ∀ x ∈ bs, x < 256) :
    Calls Try.prog 61 #[.pointer (some ⟨R, 0, none⟩), .int .i64 most] w (LimitPost R a cap bs pos last w (limit bs pos most)) := by
  have hmax : Hid (0 ≤ max most 0 ∧ max most 0 ≤ 9223372036854775807) := by show _ ∧ _; omega
  unfold limit
  cases hn : En.num (bs.drop pos) with
  | none =>
    have hn2 := hidIt hn
    clear hn
    go_enter Try.func61, Try.ntmps61
    go_wp2_with (fail)
    refine (number_none R a cap bs pos last _ h hb hn2.out).mono ?_
    rintro e w1 ⟨p, rfl, hr, hg⟩
    go_wp2_with (fail)
    go_ret2
    exact ⟨hg, rfl, p, hr⟩
  | some r =>
    obtain ⟨n, k⟩ := r
    have hn2 := hidIt hn
    clear hn
    have hw : IntKind.u64.wrap (max most 0) = max most 0 := by have := hmax.out; rw [IntKind.wrap_u64]; omega
    by_cases hlim : max most 0 < (n : Int)
    · simp only [hlim, if_true]
      go_enter Try.func61, Try.ntmps61
      go_wp2_with (fail)
      refine (number_some R a cap bs pos last n k _ h hb hn2.out).mono ?_
      rintro e w1 ⟨rfl, hr, hg⟩
      go_wp2_with (fail)
      go_ret2
      exact ⟨hg, rfl, _, hr⟩
    · simp only [hlim, if_false]
      have hw2 : IntKind.i64.wrap (n : Int) = (n : Int) := by have := hmax.out; rw [IntKind.wrap_i64]; omega
      go_enter Try.func61, Try.ntmps61
      go_wp2_with (fail)
      refine (number_some R a cap bs pos last n k _ h hb hn2.out).mono ?_
      rintro e w1 ⟨rfl, hr, hg⟩
      go_wp2_with (fail)
      go_ret2
      exact ⟨hg, rfl, hr⟩
end Go.Proofs.Ytfdbdhknamkipaa
