import Derived.Test.YtfdbdhknamkipaaWStr
namespace Go.Proofs.Ytfdbdhknamkipaa
open Go.RowKit
/-- a value of the reference, as it lies in six cells -/
structure RV where
  kind : Int
  u : Nat
  n : Int
  b : Bool
  s : ByteArray
  most : Int
def RV.val (v : RV) : Value := .agg #[.int .i64 v.kind, .int .u64 v.u, .int .i64 v.n, .bool v.b, .string v.s, .int .i64 v.most]
structure RV.ok (v : RV) : Prop where
  u : v.u < 18446744073709551616
  n1 : -9223372036854775808 ≤ v.n
  n2 : v.n ≤ 9223372036854775807
  s : v.s.size ≤ 9223372036854775807
/-- what a value is written as, or the error -/
def putB (v : RV) : Sum Nat (List Nat) :=
  if v.kind = 1 then .inr (En.enc v.u)
  else if v.kind = 2 then .inr (En.enc (zig v.n))
  else if v.kind = 3 then .inr [if v.b then 1 else 0]
  else if v.kind = 4 ∨ v.kind = 5 then .inr (En.enc v.s.size ++ ofStr v.s)
  else if v.kind = 6 then (if v.s.size = 32 then .inr (ofStr v.s) else .inl 1)
  else if v.kind = 7 then (if v.n < 0 then .inl 1 else .inr (En.enc v.n.toNat))
  else .inr []
def PutPost (B : Nat) (zs : List Nat) (w : World) (r : Sum Nat (List Nat)) (e : Ending) (w' : World) : Prop :=
  e = .returned (.tuple #[]) ∧ Below B w w' ∧ (match r with
    | .inr ds => WR w' B (zs ++ ds) 0
    | .inl er => WR w' B zs er)
set_option maxHeartbeats 1000000 in
set_option maxRecDepth 100000 in
theorem put_1 (B : Nat) (zs : List Nat) (u : Nat) (n : Int) (b : Bool) (s : ByteArray) (most : Int) (hu : u < 18446744073709551616) (hbig : zs.length + 10 ≤ 140737488355328) (w : World) (h : WR w B zs 0) :
    Calls Try.prog 22 #[.pointer (some ⟨B, 0, none⟩), .agg #[.int .i64 1, .int .u64 u, .int .i64 n, .bool b, .string s, .int .i64 most]] w fun e w' => e = .returned (.tuple #[]) ∧ Below B w w' ∧ WR w' B (zs ++ En.enc u) 0 := by
  have hlt := h.lt
  have hA := h.below ((Below.refl w.heap.size w).alloc (Nat.le_refl _) (.cells #[.int .i64 1, .int .u64 u, .int .i64 n, .bool b, .string s, .int .i64 most] 37))
  have hB := (Below.refl B w).alloc (Nat.le_of_lt hlt) (.cells #[.int .i64 1, .int .u64 u, .int .i64 n, .bool b, .string s, .int .i64 most] 37)
  go_enter Try.func22, Try.ntmps22
  go_wp2_with (fail)
  refine (wuint_any B u zs hu hbig _ hA).mono ?_
  rintro e w1 ⟨rfl, h1, hb1⟩
  go_wp2_with (fail)
  go_end0
  exact ⟨rfl, hB.trans (hb1.mono (Nat.le_refl _)), h1⟩
set_option maxHeartbeats 1000000 in
set_option maxRecDepth 100000 in
theorem put_2 (B : Nat) (zs : List Nat) (u : Nat) (n : Int) (b : Bool) (s : ByteArray) (most : Int) (h1 : -9223372036854775808 ≤ n) (h2 : n ≤ 9223372036854775807) (hbig : zs.length + 10 ≤ 140737488355328) (w : World) (h : WR w B zs 0) :
    Calls Try.prog 22 #[.pointer (some ⟨B, 0, none⟩), .agg #[.int .i64 2, .int .u64 u, .int .i64 n, .bool b, .string s, .int .i64 most]] w fun e w' => e = .returned (.tuple #[]) ∧ Below B w w' ∧ WR w' B (zs ++ En.enc (zig n)) 0 := by
  have hlt := h.lt
  have hA := h.below ((Below.refl w.heap.size w).alloc (Nat.le_refl _) (.cells #[.int .i64 2, .int .u64 u, .int .i64 n, .bool b, .string s, .int .i64 most] 37))
  have hB := (Below.refl B w).alloc (Nat.le_of_lt hlt) (.cells #[.int .i64 2, .int .u64 u, .int .i64 n, .bool b, .string s, .int .i64 most] 37)
  go_enter Try.func22, Try.ntmps22
  go_wp2_with (fail)
  refine (wint_any B n h1 h2 zs hbig _ hA).mono ?_
  rintro e w1 ⟨rfl, h1, hb1⟩
  go_wp2_with (fail)
  go_end0
  exact ⟨rfl, hB.trans (hb1.mono (Nat.le_refl _)), h1⟩
set_option maxHeartbeats 1000000 in
set_option maxRecDepth 100000 in
theorem put_3true (B : Nat) (zs : List Nat) (u : Nat) (n : Int) (s : ByteArray) (most : Int) (hbig : zs.length + 10 ≤ 140737488355328) (w : World) (h : WR w B zs 0) :
    Calls Try.prog 22 #[.pointer (some ⟨B, 0, none⟩), .agg #[.int .i64 3, .int .u64 u, .int .i64 n, .bool true, .string s, .int .i64 most]] w fun e w' => e = .returned (.tuple #[]) ∧ Below B w w' ∧ WR w' B (zs ++ [1]) 0 := by
  have hlt := h.lt
  have hA := h.below ((Below.refl w.heap.size w).alloc (Nat.le_refl _) (.cells #[.int .i64 3, .int .u64 u, .int .i64 n, .bool true, .string s, .int .i64 most] 37))
  have hB := (Below.refl B w).alloc (Nat.le_of_lt hlt) (.cells #[.int .i64 3, .int .u64 u, .int .i64 n, .bool true, .string s, .int .i64 most] 37)
  go_enter Try.func22, Try.ntmps22
  go_wp2_with (fail)
  refine (wbool_any B true zs hbig _ hA).mono ?_
  rintro e w1 ⟨rfl, h1, hb1⟩
  go_wp2_with (fail)
  go_end0
  exact ⟨rfl, hB.trans (hb1.mono (Nat.le_refl _)), h1⟩
set_option maxHeartbeats 1000000 in
set_option maxRecDepth 100000 in
theorem put_3false (B : Nat) (zs : List Nat) (u : Nat) (n : Int) (s : ByteArray) (most : Int) (hbig : zs.length + 10 ≤ 140737488355328) (w : World) (h : WR w B zs 0) :
    Calls Try.prog 22 #[.pointer (some ⟨B, 0, none⟩), .agg #[.int .i64 3, .int .u64 u, .int .i64 n, .bool false, .string s, .int .i64 most]] w fun e w' => e = .returned (.tuple #[]) ∧ Below B w w' ∧ WR w' B (zs ++ [0]) 0 := by
  have hlt := h.lt
  have hA := h.below ((Below.refl w.heap.size w).alloc (Nat.le_refl _) (.cells #[.int .i64 3, .int .u64 u, .int .i64 n, .bool false, .string s, .int .i64 most] 37))
  have hB := (Below.refl B w).alloc (Nat.le_of_lt hlt) (.cells #[.int .i64 3, .int .u64 u, .int .i64 n, .bool false, .string s, .int .i64 most] 37)
  go_enter Try.func22, Try.ntmps22
  go_wp2_with (fail)
  refine (wbool_any B false zs hbig _ hA).mono ?_
  rintro e w1 ⟨rfl, h1, hb1⟩
  go_wp2_with (fail)
  go_end0
  exact ⟨rfl, hB.trans (hb1.mono (Nat.le_refl _)), h1⟩
set_option maxHeartbeats 1000000 in
set_option maxRecDepth 100000 in
theorem put_5 (B : Nat) (zs : List Nat) (u : Nat) (n : Int) (b : Bool) (s : ByteArray) (most : Int) (hbig : zs.length + s.size + 20 ≤ 140737488355328) (w : World) (h : WR w B zs 0) :
    Calls Try.prog 22 #[.pointer (some ⟨B, 0, none⟩), .agg #[.int .i64 5, .int .u64 u, .int .i64 n, .bool b, .string s, .int .i64 most]] w fun e w' => e = .returned (.tuple #[]) ∧ Below B w w' ∧ WR w' B (zs ++ En.enc s.size ++ ofStr s) 0 := by
  have hlt := h.lt
  have hA := h.below ((Below.refl w.heap.size w).alloc (Nat.le_refl _) (.cells #[.int .i64 5, .int .u64 u, .int .i64 n, .bool b, .string s, .int .i64 most] 37))
  have hB := (Below.refl B w).alloc (Nat.le_of_lt hlt) (.cells #[.int .i64 5, .int .u64 u, .int .i64 n, .bool b, .string s, .int .i64 most] 37)
  go_enter Try.func22, Try.ntmps22
  go_wp2_with (fail)
  refine (wtext_any B s zs hbig _ hA).mono ?_
  rintro e w1 ⟨rfl, h1, hb1⟩
  go_wp2_with (fail)
  go_end0
  exact ⟨rfl, hB.trans (hb1.mono (Nat.le_refl _)), h1⟩
set_option maxHeartbeats 1000000 in
set_option maxRecDepth 100000 in
theorem put_6 (B : Nat) (zs : List Nat) (u : Nat) (n : Int) (b : Bool) (s : ByteArray) (most : Int) (hs : s.size = 32) (hbig : zs.length + 40 ≤ 140737488355328) (w : World) (h : WR w B zs 0) :
    Calls Try.prog 22 #[.pointer (some ⟨B, 0, none⟩), .agg #[.int .i64 6, .int .u64 u, .int .i64 n, .bool b, .string s, .int .i64 most]] w fun e w' => e = .returned (.tuple #[]) ∧ Below B w w' ∧ WR w' B (zs ++ ofStr s) 0 := by
  have hlt := h.lt
  have hA := h.below ((Below.refl w.heap.size w).alloc (Nat.le_refl _) (.cells #[.int .i64 6, .int .u64 u, .int .i64 n, .bool b, .string s, .int .i64 most] 37))
  have hB := (Below.refl B w).alloc (Nat.le_of_lt hlt) (.cells #[.int .i64 6, .int .u64 u, .int .i64 n, .bool b, .string s, .int .i64 most] 37)
  go_enter Try.func22, Try.ntmps22
  go_wp2_with (fail)
  refine (wsum_any B s hs zs hbig _ hA).mono ?_
  rintro e w1 ⟨rfl, h1, hb1⟩
  go_wp2_with (fail)
  go_end0
  exact ⟨rfl, hB.trans (hb1.mono (Nat.le_refl _)), h1⟩
set_option maxHeartbeats 1000000 in
set_option maxRecDepth 100000 in
theorem put_6bad (B : Nat) (zs : List Nat) (u : Nat) (n : Int) (b : Bool) (s : ByteArray) (most : Int) (hs : s.size ≠ 32) (w : World) (h : WR w B zs 0) :
    Calls Try.prog 22 #[.pointer (some ⟨B, 0, none⟩), .agg #[.int .i64 6, .int .u64 u, .int .i64 n, .bool b, .string s, .int .i64 most]] w fun e w' => e = .returned (.tuple #[]) ∧ Below B w w' ∧ WR w' B zs 1 := by
  have hlt := h.lt
  have hA := h.below ((Below.refl w.heap.size w).alloc (Nat.le_refl _) (.cells #[.int .i64 6, .int .u64 u, .int .i64 n, .bool b, .string s, .int .i64 most] 37))
  have hB := (Below.refl B w).alloc (Nat.le_of_lt hlt) (.cells #[.int .i64 6, .int .u64 u, .int .i64 n, .bool b, .string s, .int .i64 most] 37)
  go_enter Try.func22, Try.ntmps22
  go_wp2_with (fail)
  refine (wsum_bad B s hs zs _ hA).mono ?_
  rintro e w1 ⟨rfl, h1, hb1⟩
  go_wp2_with (fail)
  go_end0
  exact ⟨rfl, hB.trans (hb1.mono (Nat.le_refl _)), h1⟩
set_option maxHeartbeats 1000000 in
set_option maxRecDepth 100000 in
theorem put_7 (B : Nat) (zs : List Nat) (u : Nat) (b : Bool) (s : ByteArray) (most : Int) (m : Nat) (h2 : m ≤ 9223372036854775807) (hbig : zs.length + 10 ≤ 140737488355328) (w : World) (h : WR w B zs 0) :
    Calls Try.prog 22 #[.pointer (some ⟨B, 0, none⟩), .agg #[.int .i64 7, .int .u64 u, .int .i64 (m : Int), .bool b, .string s, .int .i64 most]] w fun e w' => e = .returned (.tuple #[]) ∧ Below B w w' ∧ WR w' B (zs ++ En.enc m) 0 := by
  have hlt := h.lt
  have hA := h.below ((Below.refl w.heap.size w).alloc (Nat.le_refl _) (.cells #[.int .i64 7, .int .u64 u, .int .i64 (m : Int), .bool b, .string s, .int .i64 most] 37))
  have hB := (Below.refl B w).alloc (Nat.le_of_lt hlt) (.cells #[.int .i64 7, .int .u64 u, .int .i64 (m : Int), .bool b, .string s, .int .i64 most] 37)
  go_enter Try.func22, Try.ntmps22
  go_wp2_with (fail)
  refine (wcount_any B m h2 zs hbig _ hA).mono ?_
  rintro e w1 ⟨rfl, h1, hb1⟩
  go_wp2_with (fail)
  go_end0
  exact ⟨rfl, hB.trans (hb1.mono (Nat.le_refl _)), h1⟩
set_option maxHeartbeats 1000000 in
set_option maxRecDepth 100000 in
theorem put_7bad (B : Nat) (zs : List Nat) (u : Nat) (n : Int) (b : Bool) (s : ByteArray) (most : Int) (hm : n < 0) (w : World) (h : WR w B zs 0) :
    Calls Try.prog 22 #[.pointer (some ⟨B, 0, none⟩), .agg #[.int .i64 7, .int .u64 u, .int .i64 n, .bool b, .string s, .int .i64 most]] w fun e w' => e = .returned (.tuple #[]) ∧ Below B w w' ∧ WR w' B zs 1 := by
  have hlt := h.lt
  have hA := h.below ((Below.refl w.heap.size w).alloc (Nat.le_refl _) (.cells #[.int .i64 7, .int .u64 u, .int .i64 n, .bool b, .string s, .int .i64 most] 37))
  have hB := (Below.refl B w).alloc (Nat.le_of_lt hlt) (.cells #[.int .i64 7, .int .u64 u, .int .i64 n, .bool b, .string s, .int .i64 most] 37)
  go_enter Try.func22, Try.ntmps22
  go_wp2_with (fail)
  refine (wcount_neg2 B n hm zs _ hA).mono ?_
  rintro e w1 ⟨rfl, h1, hb1⟩
  go_wp2_with (fail)
  go_end0
  exact ⟨rfl, hB.trans (hb1.mono (Nat.le_refl _)), h1⟩
set_option maxHeartbeats 1000000 in
set_option maxRecDepth 100000 in
theorem put_else (B : Nat) (zs : List Nat) (kind : Int) (u : Nat) (n : Int) (b : Bool) (s : ByteArray) (most : Int) (hk : ¬ kind = 1 ∧ ¬ kind = 2 ∧ ¬ kind = 3 ∧ ¬ kind = 4 ∧ ¬ kind = 5 ∧ ¬ kind = 6 ∧ ¬ kind = 7) (w : World) (h : WR w B zs 0) :
    Calls Try.prog 22 #[.pointer (some ⟨B, 0, none⟩), .agg #[.int .i64 kind, .int .u64 u, .int .i64 n, .bool b, .string s, .int .i64 most]] w fun e w' => e = .returned (.tuple #[]) ∧ Below B w w' ∧ WR w' B zs 0 := by
  obtain ⟨k1, k2, k3, k4, k5, k6, k7⟩ := hk
  have hlt := h.lt
  have hA := h.below ((Below.refl w.heap.size w).alloc (Nat.le_refl _) (.cells #[.int .i64 kind, .int .u64 u, .int .i64 n, .bool b, .string s, .int .i64 most] 37))
  have hB := (Below.refl B w).alloc (Nat.le_of_lt hlt) (.cells #[.int .i64 kind, .int .u64 u, .int .i64 n, .bool b, .string s, .int .i64 most] 37)
  go_enter Try.func22, Try.ntmps22
  go_wp2_with (fail)
  go_end0
  exact ⟨rfl, hB, hA⟩
set_option maxHeartbeats 1000000 in
set_option maxRecDepth 100000 in
theorem pute_1 (B err : Nat) (he : err ≠ 0) (zs : List Nat) (u : Nat) (n : Int) (b : Bool) (s : ByteArray) (most : Int) (w : World) (h : WR w B zs err) :
    Calls Try.prog 22 #[.pointer (some ⟨B, 0, none⟩), .agg #[.int .i64 1, .int .u64 u, .int .i64 n, .bool b, .string s, .int .i64 most]] w fun e w' => e = .returned (.tuple #[]) ∧ Below B w w' ∧ WR w' B zs err := by
  have hlt := h.lt
  have hA := h.below ((Below.refl w.heap.size w).alloc (Nat.le_refl _) (.cells #[.int .i64 1, .int .u64 u, .int .i64 n, .bool b, .string s, .int .i64 most] 37))
  have hB := (Below.refl B w).alloc (Nat.le_of_lt hlt) (.cells #[.int .i64 1, .int .u64 u, .int .i64 n, .bool b, .string s, .int .i64 most] 37)
  go_enter Try.func22, Try.ntmps22
  go_wp2_with (fail)
  refine (wuint_err B u err zs he _ hA).mono ?_
  rintro e w1 ⟨rfl, rfl⟩
  go_wp2_with (fail)
  go_end0
  exact ⟨rfl, hB, hA⟩
set_option maxHeartbeats 1000000 in
set_option maxRecDepth 100000 in
theorem pute_2 (B err : Nat) (he : err ≠ 0) (zs : List Nat) (u : Nat) (n : Int) (b : Bool) (s : ByteArray) (most : Int) (h1 : -9223372036854775808 ≤ n) (h2 : n ≤ 9223372036854775807) (w : World) (h : WR w B zs err) :
    Calls Try.prog 22 #[.pointer (some ⟨B, 0, none⟩), .agg #[.int .i64 2, .int .u64 u, .int .i64 n, .bool b, .string s, .int .i64 most]] w fun e w' => e = .returned (.tuple #[]) ∧ Below B w w' ∧ WR w' B zs err := by
  have hlt := h.lt
  have hA := h.below ((Below.refl w.heap.size w).alloc (Nat.le_refl _) (.cells #[.int .i64 2, .int .u64 u, .int .i64 n, .bool b, .string s, .int .i64 most] 37))
  have hB := (Below.refl B w).alloc (Nat.le_of_lt hlt) (.cells #[.int .i64 2, .int .u64 u, .int .i64 n, .bool b, .string s, .int .i64 most] 37)
  go_enter Try.func22, Try.ntmps22
  go_wp2_with (fail)
  refine (wint_err B err n h1 h2 zs he _ hA).mono ?_
  rintro e w1 ⟨rfl, rfl⟩
  go_wp2_with (fail)
  go_end0
  exact ⟨rfl, hB, hA⟩
set_option maxHeartbeats 1000000 in
set_option maxRecDepth 100000 in
theorem pute_3 (B err : Nat) (he : err ≠ 0) (zs : List Nat) (u : Nat) (n : Int) (b : Bool) (s : ByteArray) (most : Int) (w : World) (h : WR w B zs err) :
    Calls Try.prog 22 #[.pointer (some ⟨B, 0, none⟩), .agg #[.int .i64 3, .int .u64 u, .int .i64 n, .bool b, .string s, .int .i64 most]] w fun e w' => e = .returned (.tuple #[]) ∧ Below B w w' ∧ WR w' B zs err := by
  have hlt := h.lt
  have hA := h.below ((Below.refl w.heap.size w).alloc (Nat.le_refl _) (.cells #[.int .i64 3, .int .u64 u, .int .i64 n, .bool b, .string s, .int .i64 most] 37))
  have hB := (Below.refl B w).alloc (Nat.le_of_lt hlt) (.cells #[.int .i64 3, .int .u64 u, .int .i64 n, .bool b, .string s, .int .i64 most] 37)
  go_enter Try.func22, Try.ntmps22
  go_wp2_with (fail)
  refine (wbool_err B err b zs he _ hA).mono ?_
  rintro e w1 ⟨rfl, rfl⟩
  go_wp2_with (fail)
  go_end0
  exact ⟨rfl, hB, hA⟩
set_option maxHeartbeats 1000000 in
set_option maxRecDepth 100000 in
theorem pute_5 (B err : Nat) (he : err ≠ 0) (zs : List Nat) (u : Nat) (n : Int) (b : Bool) (s : ByteArray) (most : Int) (hs : s.size < 9223372036854775807) (w : World) (h : WR w B zs err) :
    Calls Try.prog 22 #[.pointer (some ⟨B, 0, none⟩), .agg #[.int .i64 5, .int .u64 u, .int .i64 n, .bool b, .string s, .int .i64 most]] w fun e w' => e = .returned (.tuple #[]) ∧ Below B w w' ∧ WR w' B zs err := by
  have hlt := h.lt
  have hA := h.below ((Below.refl w.heap.size w).alloc (Nat.le_refl _) (.cells #[.int .i64 5, .int .u64 u, .int .i64 n, .bool b, .string s, .int .i64 most] 37))
  have hB := (Below.refl B w).alloc (Nat.le_of_lt hlt) (.cells #[.int .i64 5, .int .u64 u, .int .i64 n, .bool b, .string s, .int .i64 most] 37)
  go_enter Try.func22, Try.ntmps22
  go_wp2_with (fail)
  refine (wtext_err B err s hs zs he _ hA).mono ?_
  rintro e w1 ⟨rfl, rfl⟩
  go_wp2_with (fail)
  go_end0
  exact ⟨rfl, hB, hA⟩
set_option maxHeartbeats 1000000 in
set_option maxRecDepth 100000 in
theorem pute_6 (B err : Nat) (he : err ≠ 0) (zs : List Nat) (u : Nat) (n : Int) (b : Bool) (s : ByteArray) (most : Int) (w : World) (h : WR w B zs err) :
    Calls Try.prog 22 #[.pointer (some ⟨B, 0, none⟩), .agg #[.int .i64 6, .int .u64 u, .int .i64 n, .bool b, .string s, .int .i64 most]] w fun e w' => e = .returned (.tuple #[]) ∧ Below B w w' ∧ WR w' B zs err := by
  have hlt := h.lt
  have hA := h.below ((Below.refl w.heap.size w).alloc (Nat.le_refl _) (.cells #[.int .i64 6, .int .u64 u, .int .i64 n, .bool b, .string s, .int .i64 most] 37))
  have hB := (Below.refl B w).alloc (Nat.le_of_lt hlt) (.cells #[.int .i64 6, .int .u64 u, .int .i64 n, .bool b, .string s, .int .i64 most] 37)
  go_enter Try.func22, Try.ntmps22
  go_wp2_with (fail)
  refine (wsum_err B err s zs he _ hA).mono ?_
  rintro e w1 ⟨rfl, rfl⟩
  go_wp2_with (fail)
  go_end0
  exact ⟨rfl, hB, hA⟩
set_option maxHeartbeats 1000000 in
set_option maxRecDepth 100000 in
theorem pute_7 (B err : Nat) (he : err ≠ 0) (zs : List Nat) (u : Nat) (n : Int) (b : Bool) (s : ByteArray) (most : Int) (w : World) (h : WR w B zs err) :
    Calls Try.prog 22 #[.pointer (some ⟨B, 0, none⟩), .agg #[.int .i64 7, .int .u64 u, .int .i64 n, .bool b, .string s, .int .i64 most]] w fun e w' => e = .returned (.tuple #[]) ∧ Below B w w' ∧ WR w' B zs err := by
  have hlt := h.lt
  have hA := h.below ((Below.refl w.heap.size w).alloc (Nat.le_refl _) (.cells #[.int .i64 7, .int .u64 u, .int .i64 n, .bool b, .string s, .int .i64 most] 37))
  have hB := (Below.refl B w).alloc (Nat.le_of_lt hlt) (.cells #[.int .i64 7, .int .u64 u, .int .i64 n, .bool b, .string s, .int .i64 most] 37)
  go_enter Try.func22, Try.ntmps22
  go_wp2_with (fail)
  refine (wcount_err B err n zs he _ hA).mono ?_
  rintro e w1 ⟨rfl, rfl⟩
  go_wp2_with (fail)
  go_end0
  exact ⟨rfl, hB, hA⟩
set_option maxHeartbeats 1000000 in
set_option maxRecDepth 100000 in
theorem pute_else (B err : Nat) (_he : err ≠ 0) (zs : List Nat) (kind : Int) (u : Nat) (n : Int) (b : Bool) (s : ByteArray) (most : Int) (hk : ¬ kind = 1 ∧ ¬ kind = 2 ∧ ¬ kind = 3 ∧ ¬ kind = 4 ∧ ¬ kind = 5 ∧ ¬ kind = 6 ∧ ¬ kind = 7) (w : World) (h : WR w B zs err) :
    Calls Try.prog 22 #[.pointer (some ⟨B, 0, none⟩), .agg #[.int .i64 kind, .int .u64 u, .int .i64 n, .bool b, .string s, .int .i64 most]] w fun e w' => e = .returned (.tuple #[]) ∧ Below B w w' ∧ WR w' B zs err := by
  obtain ⟨k1, k2, k3, k4, k5, k6, k7⟩ := hk
  have hlt := h.lt
  have hA := h.below ((Below.refl w.heap.size w).alloc (Nat.le_refl _) (.cells #[.int .i64 kind, .int .u64 u, .int .i64 n, .bool b, .string s, .int .i64 most] 37))
  have hB := (Below.refl B w).alloc (Nat.le_of_lt hlt) (.cells #[.int .i64 kind, .int .u64 u, .int .i64 n, .bool b, .string s, .int .i64 most] 37)
  go_enter Try.func22, Try.ntmps22
  go_wp2_with (fail)
  go_end0
  exact ⟨rfl, hB, hA⟩
end Go.Proofs.Ytfdbdhknamkipaa
