import Derived.Test.YtpfekbbmbdegbaaDoorHmC
import Derived.Lib.SlBytesConst
namespace Go.Proofs.YtpfekbbmbdegbaaDoor
open Go.RowKit
set_option maxRecDepth 100000 in
set_option maxHeartbeats 2000000 in
theorem begins_true (s : ByteArray) (D : List Nat) (hof : Hid (ofStr s = D)) (a : Option Addr) (n cap : Nat) (bs : List Nat) (hn : n = bs.length) (hl : bs.length ≤ D.length) (hcap : bs.length ≤ cap) (hp : Hid (∀ i, i < bs.length → D.getD i 0 = bs.getD i 0)) (w : World) (h : Bytes w a bs) (hsm : bs.length ≤ 1000) :
    Calls Tryd.prog 44 #[.string s, .slice a n cap] w fun e w' => e = .returned (.bool true) ∧ Below w.heap.size w w' := by
  subst hn
  have hsz : s.size = D.length := by rw [← hof.out, ofStr_len]
  have t0 : ¬ (s.size : Int) < (bs.length : Int) := by omega
  have hsz2 := hidIt hsz
  clear hsz
  have h2 := hidIt h
  clear h
  go_enter Tryd.func44, Tryd.ntmps44
  go_wp2
  clear t0
  go_loopw [5] (fun i wr => ∃ (j n : Nat), j ≤ bs.length ∧ i = .int .i64 (j : Int) ∧ Hid (wr = w.drewN n)) (fun i _ => bs.length - (intOf i).toNat)
  case atStart => exact ⟨0, 0, by omega, rfl, rfl⟩
  case round =>
    obtain ⟨j, n, hj, rfl, hw⟩ := hrel
    by_cases hlt : j < bs.length
    · obtain ⟨x, hx⟩ : ∃ x, Hid (D.getD j 0 = x) := ⟨_, rfl⟩
      have i1 := fun W => idxStr s j (by rw [hsz2.out]; omega) .i64 W
      rw [hof.out, hx.out] at i1
      obtain ⟨b, off, rfl, hc⟩ := h2.out j hlt
      rw [← hp.out j hlt, hx.out] at hc
      obtain ⟨wq, hq, hcq⟩ : ∃ wq, Hid (wr = wq) ∧ wq.cell? ⟨b, off + j, none⟩ = some (.int .u8 (x : Int)) := ⟨_, rfl, by rw [hw.out]; exact hc⟩
      rw [hq.out]
      clear hc hx
      have t1 : (j : Int) < (bs.length : Int) := by omega
      have t2 : (j : Int) < (cap : Int) := by omega
      go_wp2
      go_quiet (fail)
      go_wp2
      go_roundw
      case rel => exact ⟨j + 1, _, by omega, by go_num, by rw [← hq.out, hw.out]; exact World.drewN_drewN ..⟩
      case measure => simp [intOf]; omega
    · obtain rfl : j = bs.length := by omega
      go_wp2
      go_ret
      refine ⟨rfl, ?_⟩
      rw [hw.out]; exact below_drewN (Below.refl _ _) _
theorem four_bytes (w : World) (z0 z1 z2 z3 : Int) (y0 y1 y2 y3 : Nat) (h0 : z0 = (y0 : Int)) (h1 : z1 = (y1 : Int)) (h2 : z2 = (y2 : Int)) (h3 : z3 = (y3 : Int)) (fr : Nat × Nat) : Bytes (w.alloc (.cells #[.int .u8 z0, .int .u8 z1, .int .u8 z2, .int .u8 z3] 5 fr)) (some ⟨w.heap.size, 0, none⟩) [y0, y1, y2, y3] := by
  subst h0 h1 h2 h3
  intro i hi
  have h4 : i < 4 := hi
  refine ⟨_, 0, rfl, ?_⟩
  rw [Nat.zero_add, cell_of_row _ _ _ _ _ _ (heap_alloc_new w _)]
  match i, h4 with
  | 0, _ | 1, _ | 2, _ | 3, _ => rfl
theorem vals_bytes (w : World) (bs : List Nat) (t : TypeId) (fr : Nat × Nat) : Bytes (w.alloc (.cells (vals bs).toArray t fr)) (some ⟨w.heap.size, 0, none⟩) bs := by
  intro i hi
  refine ⟨_, 0, rfl, ?_⟩
  rw [Nat.zero_add, cell_of_row _ _ _ _ _ _ (heap_alloc_new w _)]
  simp [vals, List.getD, hi]
def jefe : List Nat := [74, 101, 102, 101]
def want : List Nat := [119, 104, 97, 116, 32, 100, 111, 32, 121, 97, 32, 119, 97, 110, 116, 32, 102, 111, 114, 32, 110, 111, 116, 104, 105, 110, 103, 63]
def secr : List Nat := List.replicate 22 11
theorem tag_jefe : ∀ i, i < 4 → (Hm.tag jefe want).getD i 0 = [91, 220, 193, 70].getD i 0 := by
  have h : (Hm.tag jefe want).take 4 = [91, 220, 193, 70] := by decide +kernel
  intro i hi
  rw [← h, List.getD_eq_getElem?_getD, List.getD_eq_getElem?_getD, List.getElem?_take, if_pos hi]
theorem key_secr : ∀ i, i < 4 → (Hm.tag [] secr).getD i 0 = [25, 239, 36, 163].getD i 0 := by
  have h : (Hm.tag [] secr).take 4 = [25, 239, 36, 163] := by decide +kernel
  intro i hi
  rw [← h, List.getD_eq_getElem?_getD, List.getD_eq_getElem?_getD, List.getElem?_take, if_pos hi]
theorem out_secr : ∀ i, i < 4 → (Hm.expand (Hm.tag [] secr) [] 42).getD i 0 = [141, 164, 231, 117].getD i 0 := by
  have h : (Hm.expand (Hm.tag [] secr) [] 42).take 4 = [141, 164, 231, 117] := by decide +kernel
  intro i hi
  rw [← h, List.getD_eq_getElem?_getD, List.getD_eq_getElem?_getD, List.getElem?_take, if_pos hi]
end Go.Proofs.YtpfekbbmbdegbaaDoor
