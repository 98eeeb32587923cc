import Derived.Test.YtlpggkdmjmlpkaaDop
import Derived.Lib.SlBytesConst
namespace Go.Proofs.Ytlpggkdmjmlpkaa
open Go.RowKit
def awD1 : Dsk := ((Dsk.fresh 2 3).write 0 [97, 98, 99]).2
def awD2 : Dsk := awD1.crash (fun i => ([] : List Bool).getD i false) 2
/-- a literal of three bytes -/
theorem lit3 (w : World) (fr : Nat × Nat) (x y z : Nat) (h : x < 256 ∧ y < 256 ∧ z < 256) : Rd (w.alloc (.cells #[.int .u8 (x : Int), .int .u8 (y : Int), .int .u8 (z : Int)] 5 fr)) (some ⟨w.heap.size, 0, none⟩) 3 [x, y, z] := by
  refine ⟨fun i hi => ⟨w.heap.size, 0, rfl, ?_⟩, rfl, fun v hv => ?_⟩
  · rw [cell_of_row _ _ _ _ _ fr (heap_alloc_new w _), Nat.zero_add]
    match i, hi with
    | 0, _ => rfl
    | 1, _ => rfl
    | 2, _ => rfl
  · simp only [List.mem_cons, List.not_mem_nil, or_false] at hv
    rcases hv with rfl | rfl | rfl <;> omega
theorem Img.cell {w' : World} {lo R : Nat} {q : Nat → Nat} {n z : Nat} {F : Nat → List Nat} (h : Img w' lo R q n z F) {i : Nat} (hi : i < n) : w'.cell? ⟨R, i, none⟩ = some (.slice (some ⟨q i, 0, none⟩) z z) := by rw [h.row.cell, hdr_get _ _ _ _ hi]; rfl
theorem Img.below {w' w'' : World} {lo R : Nat} {q : Nat → Nat} {n z : Nat} {F : Nat → List Nat} (h : Img w' lo R q n z F) (hb : Below w'.heap.size w' w'') : Img w'' lo R q n z F := ⟨h.row.below hb h.row.lt, fun i hi => Blk.below (h.sec i hi) hb (Blk.lt (h.sec i hi)), h.lo⟩
set_option maxRecDepth 100000 in
set_option maxHeartbeats 4000000 in
theorem awake_any (w : World) : Calls Try.prog 11 #[] w fun e w' => e = .returned (.bool true) ∧ Below w.heap.size w w' := by
  have kc := fun (w : World) (C : Array Value) (n c : Nat) => Lib.run_convert_bytes_const (P := Try.prog) w 39 5 C n c Try.underlying39 Try.underlying5
  go_enter Try.func11, Try.ntmps11
  go_wp2_with (fail)
  refine (new_any 2 3 w).mono ?_
  rintro e w1 h1
  unfold NewR at h1
  rw [if_pos (by decide)] at h1
  obtain ⟨g, S, rfl, hD, hS, hb1⟩ := h1
  have hD1 := hidIt hD
  have hS1 := hidIt hS
  have H1 := hidIt hb1
  clear hD hS hb1
  go_wp2_with (fail)
  obtain ⟨w2, hw2, hr2, hb2⟩ : ∃ w2, Hid (w1.alloc (.cells #[.int .u8 97, .int .u8 98, .int .u8 99] 5 (3, 4)) = w2) ∧ Rd w2 (some ⟨w1.heap.size, 0, none⟩) 3 [97, 98, 99] ∧ Below w1.heap.size w1 w2 := ⟨_, rfl, lit3 w1 (3, 4) 97 98 99 (by decide), (Below.refl _ _).alloc (Nat.le_refl _) _⟩
  rw [hw2.out]
  have dW : Hid (Calls Try.prog 25 #[.pointer (some ⟨g, 0, none⟩), .int .i64 0, .slice (some ⟨w1.heap.size, 0, none⟩) 3 3] w2 fun e w' => e = .returned (.int .i64 0) ∧ ∃ S', DK w' S' g awD1 ∧ Step w2 w' S S') := write_any g S (Dsk.fresh 2 3) 0 _ 3 3 [97, 98, 99] w2 (hD1.out.below hb2) hr2.len hr2.by_ hr2.lt (by decide)
  have H2 := hidIt (below_then H1.out hb2)
  clear hr2 hw2 hb2 hD1 H1
  refine dW.out.mono ?_
  rintro e w3 ⟨rfl, S3, hD, hst⟩
  have hD3 := hidIt hD
  have hS3 := hidIt (hst.lo H2.out.size hS1.out)
  have H3 := hidIt (H2.out.trans (hst.below H2.out.size hS1.out))
  clear hD hst dW hS1 H2
  go_wp2_with (fail)
  have dR := hidIt (read_any g S3 awD1 0 w3 hD3 (by decide))
  refine dR.out.mono ?_
  rintro e w4 ⟨(⟨hc, _⟩ | ⟨_, q, rfl, hq, hbb⟩), hb4⟩
  · exact absurd rfl hc
  have hr4 : Rd w4 (some ⟨q, 0, none⟩) 3 [97, 98, 99] := BB.rd hbb (by decide)
  have hD4 := hidIt (hD3.out.below hb4)
  have H4 := hidIt (below_then H3.out hb4)
  have hr4' := hidIt hr4
  clear hbb hb4 dR hr4 hq H3 hD3
  go_wp2_with (fail)
  have dI := hidIt (image_any g S3 awD1 w4 hD4)
  refine dI.out.mono ?_
  rintro e w5 ⟨R, qi, rfl, hI, hb5⟩
  have hD5 := hidIt (hD4.out.below hb5)
  have H5 := hidIt (below_then H4.out hb5)
  have hr5 := hidIt (hr4'.out.below hb5)
  have hI5 := hidIt hI
  clear hI hb5 dI hr4' H4 hD4
  go_wp2_with (fail)
  obtain ⟨w6, hw6, hr6, hb6⟩ : ∃ w6, Hid (w5.alloc (.cells #[.int .u8 97, .int .u8 98, .int .u8 99] 5 (3, 4)) = w6) ∧ Rd w6 (some ⟨w5.heap.size, 0, none⟩) 3 [97, 98, 99] ∧ Below w5.heap.size w5 w6 := ⟨_, rfl, lit3 w5 (3, 4) 97 98 99 (by decide), (Below.refl _ _).alloc (Nat.le_refl _) _⟩
  rw [hw6.out]
  have dS := hidIt (same_any (some ⟨q, 0, none⟩) (some ⟨w5.heap.size, 0, none⟩) 3 3 3 3 [97, 98, 99] [97, 98, 99] w6 (hr5.out.below hb6) hr6)
  have hD6 := hidIt (hD5.out.below hb6)
  have H6 := hidIt (below_then H5.out hb6)
  have hI6 := hidIt (hI5.out.below hb6)
  clear hw6 hr6 hb6 hr5 hD5 H5 hI5
  refine dS.out.mono ?_
  rintro e w7 ⟨rfl, rfl⟩
  have e0 := hI6.out.cell (i := 0) (by decide)
  clear dS
  go_wp2_with (fail)
  obtain ⟨w7, hw7, hr7, hb7⟩ : ∃ w7, Hid (w6.alloc (.cells #[.int .u8 0, .int .u8 0, .int .u8 0] 5) = w7) ∧ Rd w7 (some ⟨w6.heap.size, 0, none⟩) 3 [0, 0, 0] ∧ Below w6.heap.size w6 w7 := ⟨_, rfl, lit3 w6 (0, 0) 0 0 0 (by decide), (Below.refl _ _).alloc (Nat.le_refl _) _⟩
  rw [hw7.out]
  have hq0 : Rd w7 (some ⟨qi 0, 0, none⟩) 3 [0, 0, 0] := BB.rd (((hI6.out.sec 0 (by decide)).below hb7 (Blk.lt (hI6.out.sec 0 (by decide))))) (by decide)
  have dS := hidIt (same_any (some ⟨qi 0, 0, none⟩) (some ⟨w6.heap.size, 0, none⟩) 3 3 3 3 [0, 0, 0] [0, 0, 0] w7 hq0 hr7)
  have hD7 := hidIt (hD6.out.below hb7)
  have H7 := hidIt (below_then H6.out hb7)
  clear hw7 hr7 hb7 hq0 hD6 H6 hI6 e0
  refine dS.out.mono ?_
  rintro e w8 ⟨rfl, rfl⟩
  clear dS
  go_wp2_with (fail)
  have dP := hidIt (pending_any g S3 awD1 w7 hD7)
  refine dP.out.mono ?_
  rintro e w8 ⟨rfl, rfl⟩
  clear dP
  go_wp2_with (fail)
  have dC : Hid (Calls Try.prog 28 #[.pointer (some ⟨g, 0, none⟩), .slice none 0 0, .int .i64 2] w7 fun e w' => e = .returned (.tuple #[]) ∧ ∃ S', DK w' S' g awD2 ∧ Step w7 w' S3 S') := crash_any g S3 awD1 none 0 0 [] 2 w7 hD7 (fun i hi => by simp at hi) rfl (fun x hx => by cases hx) (by decide)
  refine dC.out.mono ?_
  rintro e w8 ⟨rfl, S8, hD, hst⟩
  have hD8 := hidIt hD
  have hS8 := hidIt (hst.lo H7.out.size hS3.out)
  have H8 := hidIt (H7.out.trans (hst.below H7.out.size hS3.out))
  clear hD hst dC hS3 H7 hD7
  go_wp2_with (fail)
  have dI := hidIt (image_any g S8 awD2 w8 hD8)
  refine dI.out.mono ?_
  rintro e w9 ⟨R2, q2, rfl, hI, hb9⟩
  have hD9 := hidIt (hD8.out.below hb9)
  have H9 := hidIt (below_then H8.out hb9)
  have hI9 := hidIt hI
  have e0 := hI.cell (i := 0) (by decide)
  clear hI hb9 dI H8 hD8
  go_wp2_with (fail)
  obtain ⟨w10, hw10, hr10, hb10⟩ : ∃ w10, Hid (w9.alloc (.cells #[.int .u8 97, .int .u8 98, .int .u8 0] 5) = w10) ∧ Rd w10 (some ⟨w9.heap.size, 0, none⟩) 3 [97, 98, 0] ∧ Below w9.heap.size w9 w10 := ⟨_, rfl, lit3 w9 (0, 0) 97 98 0 (by decide), (Below.refl _ _).alloc (Nat.le_refl _) _⟩
  rw [hw10.out]
  have hq0 : Rd w10 (some ⟨q2 0, 0, none⟩) 3 [97, 98, 0] := BB.rd (((hI9.out.sec 0 (by decide)).below hb10 (Blk.lt (hI9.out.sec 0 (by decide))))) (by decide)
  have dS := hidIt (same_any (some ⟨q2 0, 0, none⟩) (some ⟨w9.heap.size, 0, none⟩) 3 3 3 3 [97, 98, 0] [97, 98, 0] w10 hq0 hr10)
  have hD10 := hidIt (hD9.out.below hb10)
  have H10 := hidIt (below_then H9.out hb10)
  clear hw10 hr10 hb10 hq0 hD9 H9 hI9 e0
  refine dS.out.mono ?_
  rintro e w11 ⟨rfl, rfl⟩
  clear dS
  go_wp2_with (fail)
  have dP := hidIt (pending_any g S8 awD2 w10 hD10)
  refine dP.out.mono ?_
  rintro e w11 ⟨rfl, rfl⟩
  clear dP
  go_wp2_with (fail)
  have dY := hidIt (sync_any g S8 awD2 w10 hD10 (by decide))
  refine dY.out.mono ?_
  rintro e w11 ⟨rfl, S11, hD, hst⟩
  have H11 := hidIt (H10.out.trans (hst.below H10.out.size hS8.out))
  clear hD hst dY
  go_wp2_with (fail)
  go_ret
  exact ⟨rfl, H11.out⟩
end Go.Proofs.Ytlpggkdmjmlpkaa
