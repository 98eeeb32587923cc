import Derived.Test.YtfdbdhknamkipaaPut
import Derived.Laws.IdiomStrings
namespace Go.Proofs.Ytfdbdhknamkipaa
open Go.RowKit
theorem bytes_row (w : World) (s : ByteArray) (cap : Nat) (t : TypeId) (d : Nat × Nat) : Bytes (w.alloc (.cells (bytesRow s cap) t d)) (some ⟨w.heap.size, 0, none⟩) (ofStr s) := by
  intro i hi
  refine ⟨w.heap.size, 0, rfl, ?_⟩
  have hi2 : i < s.data.size := by rw [ofStr_len] at hi; exact hi
  rw [cell_of_row _ w.heap.size (0 + i) _ _ _ (heap_alloc_new _ _), Nat.zero_add, bytesRow_at s cap i hi2]
  have : (ofStr s).getD i 0 = s.data[i].toNat := by
    unfold ofStr
    simp [List.getD, Array.getElem?_eq_getElem hi2]
  rw [this]
theorem wbytesStr (B : Nat) (zs : List Nat) (s : ByteArray) (cap : Nat) (t : Nat × Nat) (hbig : zs.length + s.size + 20 ≤ 140737488355328) (w : World) (h : WR w B zs 0) :
    Calls Try.prog 41 #[.pointer (some ⟨B, 0, none⟩), .slice (some ⟨w.heap.size, 0, none⟩) s.size cap] (w.drew.alloc (.cells (bytesRow s cap) 5 t)) fun e w' => e = .returned (.tuple #[]) ∧ WR w' B (zs ++ En.enc s.size ++ ofStr s) 0 ∧ Below B w w' := by
  have hlt := h.lt
  obtain ⟨d, hd⟩ := h.d
  have hdl := hd.dlt
  have hb : Below w.heap.size w (w.drew.alloc (.cells (bytesRow s cap) 5 t)) := (below_drewN (Below.refl _ _) 1).alloc (Nat.le_refl _) _
  have hc := wbytes_any B d (some ⟨w.heap.size, 0, none⟩) cap zs (ofStr s) (by rw [ofStr_len]; exact hbig) (w.drew.alloc (.cells (bytesRow s cap) 5 t)) (hd.below hb) (bytes_row w.drew s cap _ t) (fun e => by cases e) (fun x hx => by
    cases hx
    exact ⟨by show w.heap.size ≠ B; omega, fun e => by have := (hdl w.heap.size e.symm).2; omega, by simp⟩)
  rw [ofStr_len] at hc
  refine hc.mono ?_
  rintro e w' ⟨rfl, h2, hb2⟩
  exact ⟨rfl, h2, (hb.mono (Nat.le_of_lt hlt)).trans hb2⟩
theorem wbytesStr_err (B err : Nat) (he : err ≠ 0) (zs : List Nat) (s : ByteArray) (cap : Nat) (t : Nat × Nat) (hs : s.size < 9223372036854775807) (w : World) (h : WR w B zs err) :
    Calls Try.prog 41 #[.pointer (some ⟨B, 0, none⟩), .slice (some ⟨w.heap.size, 0, none⟩) s.size cap] (w.drew.alloc (.cells (bytesRow s cap) 5 t)) fun e w' => e = .returned (.tuple #[]) ∧ WR w' B zs err ∧ Below B w w' := by
  have hlt := h.lt
  have hb : Below w.heap.size w (w.drew.alloc (.cells (bytesRow s cap) 5 t)) := (below_drewN (Below.refl _ _) 1).alloc (Nat.le_refl _) _
  refine (wbytes_err B err _ s.size cap hs zs he _ (h.below hb)).mono ?_
  rintro e w' ⟨rfl, rfl⟩
  exact ⟨rfl, h.below hb, hb.mono (Nat.le_of_lt hlt)⟩
set_option maxHeartbeats 1000000 in
set_option maxRecDepth 100000 in
theorem put_4 (B : Nat) (zs : List Nat) (u : Nat) (n : Int) (b : Bool) (s : ByteArray) (most : Int) (hbig : zs.length + s.size + 20 ≤ 140737488355328) (w : World) (h : WR w B zs 0) :
    Calls Try.prog 22 #[.pointer (some ⟨B, 0, none⟩), .agg #[.int .i64 4, .int .u64 u, .int .i64 n, .bool b, .string s, .int .i64 most]] w fun e w' => e = .returned (.tuple #[]) ∧ Below B w w' ∧ WR w' B (zs ++ En.enc s.size ++ ofStr s) 0 := by
  have hlt := h.lt
  have hA := h.below ((Below.refl w.heap.size w).alloc (Nat.le_refl _) (.cells #[.int .i64 4, .int .u64 u, .int .i64 n, .bool b, .string s, .int .i64 most] 37))
  have hB := (Below.refl B w).alloc (Nat.le_of_lt hlt) (.cells #[.int .i64 4, .int .u64 u, .int .i64 n, .bool b, .string s, .int .i64 most] 37)
  have hsz : (w.alloc (.cells #[.int .i64 4, .int .u64 u, .int .i64 n, .bool b, .string s, .int .i64 most] 37)).heap.size = w.heap.size + 1 := by simp
  have hq := run_bytes_of_string (P := Try.prog) (w.alloc (.cells #[.int .i64 4, .int .u64 u, .int .i64 n, .bool b, .string s, .int .i64 most] 37)) 9 25 5 s Try.underlying9 Try.underlying25 Try.underlying5
  have hc := fun cap t => wbytesStr B zs s cap t hbig _ hA
  have hc2 := hidIt hc
  clear hc
  go_enter Try.func22, Try.ntmps22
  go_wp2_with (fail)
  have hc3 := hc2.out (grownCap (w.alloc (.cells #[.int .i64 4, .int .u64 u, .int .i64 n, .bool b, .string s, .int .i64 most] 37)) s.size 0 5) ((bytesRow s (grownCap (w.alloc (.cells #[.int .i64 4, .int .u64 u, .int .i64 n, .bool b, .string s, .int .i64 most] 37)) s.size 0 5)).size, (bytesRow s (grownCap (w.alloc (.cells #[.int .i64 4, .int .u64 u, .int .i64 n, .bool b, .string s, .int .i64 most] 37)) s.size 0 5)).size + 1)
  rw [hsz] at hc3
  clear hq
  refine hc3.mono ?_
  rintro e w1 ⟨rfl, h1, hb1⟩
  clear hc3 hc2
  go_wp2_with (fail)
  go_end0
  exact ⟨rfl, hB.trans hb1, h1⟩
set_option maxHeartbeats 1000000 in
set_option maxRecDepth 100000 in
theorem pute_4 (B err : Nat) (he : err ≠ 0) (zs : List Nat) (u : Nat) (n : Int) (b : Bool) (s : ByteArray) (most : Int) (hs : s.size < 9223372036854775807) (w : World) (h : WR w B zs err) :
    Calls Try.prog 22 #[.pointer (some ⟨B, 0, none⟩), .agg #[.int .i64 4, .int .u64 u, .int .i64 n, .bool b, .string s, .int .i64 most]] w fun e w' => e = .returned (.tuple #[]) ∧ Below B w w' ∧ WR w' B zs err := by
  have hlt := h.lt
  have hA := h.below ((Below.refl w.heap.size w).alloc (Nat.le_refl _) (.cells #[.int .i64 4, .int .u64 u, .int .i64 n, .bool b, .string s, .int .i64 most] 37))
  have hB := (Below.refl B w).alloc (Nat.le_of_lt hlt) (.cells #[.int .i64 4, .int .u64 u, .int .i64 n, .bool b, .string s, .int .i64 most] 37)
  have hsz : (w.alloc (.cells #[.int .i64 4, .int .u64 u, .int .i64 n, .bool b, .string s, .int .i64 most] 37)).heap.size = w.heap.size + 1 := by simp
  have hq := run_bytes_of_string (P := Try.prog) (w.alloc (.cells #[.int .i64 4, .int .u64 u, .int .i64 n, .bool b, .string s, .int .i64 most] 37)) 9 25 5 s Try.underlying9 Try.underlying25 Try.underlying5
  have hc := fun cap t => wbytesStr_err B err he zs s cap t hs _ hA
  have hc2 := hidIt hc
  clear hc
  go_enter Try.func22, Try.ntmps22
  go_wp2_with (fail)
  have hc3 := hc2.out (grownCap (w.alloc (.cells #[.int .i64 4, .int .u64 u, .int .i64 n, .bool b, .string s, .int .i64 most] 37)) s.size 0 5) ((bytesRow s (grownCap (w.alloc (.cells #[.int .i64 4, .int .u64 u, .int .i64 n, .bool b, .string s, .int .i64 most] 37)) s.size 0 5)).size, (bytesRow s (grownCap (w.alloc (.cells #[.int .i64 4, .int .u64 u, .int .i64 n, .bool b, .string s, .int .i64 most] 37)) s.size 0 5)).size + 1)
  rw [hsz] at hc3
  clear hq
  refine hc3.mono ?_
  rintro e w1 ⟨rfl, h1, hb1⟩
  clear hc3 hc2
  go_wp2_with (fail)
  go_end0
  exact ⟨rfl, hB.trans hb1, h1⟩
end Go.Proofs.Ytfdbdhknamkipaa
