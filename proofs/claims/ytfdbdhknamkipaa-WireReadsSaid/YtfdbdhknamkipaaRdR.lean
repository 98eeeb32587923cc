import Derived.Test.YtfdbdhknamkipaaRdN
namespace Go.Proofs.Ytfdbdhknamkipaa
open Go.RowKit
/-- what the reference's read returns -/
def readV (bs : List Nat) (kind most : Int) (pos : Nat) : RV × Nat × Nat := match rdV bs kind most pos with
  | .inr (v, p) => (v, p, 0)
  | .inl er => (zeroV kind most, pos, er)
def readE (q : RV × Nat × Nat) : Ending := .returned (.tuple #[q.1.val, .int .i64 q.2.1, .int .i64 q.2.2])
theorem readV_bad {bs : List Nat} {kind most : Int} {pos er : Nat} (h : rdV bs kind most pos = .inl er) : readV bs kind most pos = (zeroV kind most, pos, er) := by unfold readV; rw [h]
theorem readV_ok {bs : List Nat} {kind most : Int} {pos p : Nat} {v : RV} (h : rdV bs kind most pos = .inr (v, p)) : readV bs kind most pos = (v, p, 0) := by unfold readV; rw [h]
theorem results_cell3 {P : Program} {fn : Func} {p u v : Tmp} {ty : TypeId} (h : fn.results = #[.cell p ty, .tmp u, .tmp v]) (tmps : Array Value) (w : World) (g : Nat) (t : TypeId) (cs : Array Value) (fr : Nat × Nat) (d : TypeDesc)
    (hp : tmps.getD p undef = .pointer (some ⟨g, 0, none⟩)) (hg : w.heap[g]? = some (.cells cs t fr))
    (hu : P.underlying ty = some d) (hd : (match d with | .struct _ | .array _ _ => true | _ => false) = true) (hi : (P.info? ty).map (·.size) = some cs.size) :
    (results fn tmps).run P w = .ok (.tuple #[.agg cs, tmps.getD u undef, tmps.getD v undef]) w := by
  have hp' : tmps[p]?.getD undef = .pointer (some ⟨g, 0, none⟩) := by simpa using hp
  simp [results, h, hp', asAddr, run_loadVar_row w g t ty cs fr d hg hu hd hi]
theorem below_set {B S i : Nat} {w W : World} {v : Value} (h : Below B w W) (hS : B ≤ S) : Below B w (W.setCell ⟨S, i, none⟩ v) :=
  ⟨h.os, h.tape, h.output, by simpa using h.size, fun k hk => (heap_setCell_other W ⟨S, i, none⟩ k v (fun e => by have : k = S := e; omega)).trans (h.block k hk)⟩
theorem bytes_sub {w : World} {b off p n : Nat} {bs : List Nat} (h : Bytes w (some ⟨b, off, none⟩) bs) (hn : p + n ≤ bs.length) : Bytes w (some ⟨b, off + p, none⟩) ((bs.drop p).take n) := by
  intro i hi
  have hi' : i < n := by rw [List.length_take] at hi; omega
  obtain ⟨b', off', e, hc⟩ := h (p + i) (by omega)
  cases e
  refine ⟨b, off + p, rfl, ?_⟩
  rw [Nat.add_assoc, hc, List.getD_eq_getElem?_getD, List.getD_eq_getElem?_getD, List.getElem?_take_of_lt hi', List.getElem?_drop]
theorem row_under (w : World) (x y : Obj) : ((w.alloc x).alloc y).heap[w.heap.size]? = (w.alloc x).heap[w.heap.size]? := Below.heap_alloc (w.alloc x) y w.heap.size (by simp)
theorem below_two (w : World) (x y : Obj) : Below w.heap.size w ((w.alloc x).alloc y) := ((Below.refl _ _).alloc (Nat.le_refl _) _).alloc (by simp) _
set_option maxRecDepth 100000 in
set_option maxHeartbeats 4000000 in
theorem refread_6short (a : Option Addr) (cap : Nat) (bs : List Nat) (pos : Nat) (most : Int) (hpos : pos ≤ bs.length) (hs : bs.length - pos < 32) (w : World) :
    Calls Try.prog 39 #[.slice a bs.length cap, .int .i64 pos, .int .i64 6, .int .i64 most] w fun e w' => e = readE (zeroV 6 most, pos, 3) ∧ Below w.heap.size w w' := by
  have t1 : (bs.length : Int) - (pos : Int) < 32 := by omega
  go_enter Try.func39, Try.ntmps39
  go_wp2_with (fail)
  refine ⟨rfl, _, results_cell3 rfl _ _ w.heap.size _ _ _ _ rfl ((row_under _ _ _).trans (heap_alloc_new _ _)) Try.underlying37 rfl (by kernel_rfl), ?_⟩
  exact ⟨rfl, below_two _ _ _⟩
set_option maxRecDepth 100000 in
set_option maxHeartbeats 4000000 in
theorem refread_6 (a : Option Addr) (cap : Nat) (bs : List Nat) (pos : Nat) (most : Int) (_hsz : bs.length ≤ 1000) (hcap : bs.length ≤ cap) (hs : pos + 32 ≤ bs.length) (w : World) (h : Bytes w a bs) :
    Calls Try.prog 39 #[.slice a bs.length cap, .int .i64 pos, .int .i64 6, .int .i64 most] w fun e w' => e = readE (⟨6, 0, 0, false, str ((bs.drop pos).take 32), most⟩, pos + 32, 0) ∧ Below w.heap.size w w' := by
  have t1 : ¬ (bs.length : Int) - (pos : Int) < 32 := by omega
  obtain ⟨b, off, rfl, -⟩ := h 0 (by omega)
  have hby : Bytes ((w.alloc (.cells #[.int .i64 0, .int .u64 0, .int .i64 0, .bool false, .string ⟨#[]⟩, .int .i64 0] 37)).alloc (.cells #[.int .i64 6, .int .u64 0, .int .i64 0, .bool false, .string ⟨#[]⟩, .int .i64 most] 37)) (some ⟨b, off + pos, none⟩) ((bs.drop pos).take 32) := Bytes.below (bytes_sub h (by omega)) (below_two w _ _)
  have hq := conv_str _ (some ⟨b, off + pos, none⟩) 32 (cap - pos) _ (by rw [List.length_take, List.length_drop]; omega) hby
  generalize hsv : str ((bs.drop pos).take 32) = sv at *
  have hsv2 := hidIt hsv
  clear hsv hby h
  go_enter Try.func39, Try.ntmps39
  go_wp2_with (fail)
  refine ⟨rfl, _, results_cell3 rfl _ _ w.heap.size _ _ _ _ rfl ((row_under _ _ _).trans (heap_alloc_new _ _)) Try.underlying37 rfl (by kernel_rfl), ?_⟩
  exact ⟨rfl, below_two _ _ _⟩
set_option maxRecDepth 100000 in
set_option maxHeartbeats 4000000 in
theorem refread_3bad (a : Option Addr) (cap : Nat) (bs : List Nat) (pos : Nat) (most : Int) (_hsz : bs.length ≤ 1000) (hcap : bs.length ≤ cap) (hs : boolAt bs pos = none) (hpos : pos ≤ bs.length) (w : World) (h : Bytes w a bs) :
    Calls Try.prog 39 #[.slice a bs.length cap, .int .i64 pos, .int .i64 3, .int .i64 most] w fun e w' => e = readE (zeroV 3 most, pos, 3) ∧ Below w.heap.size w w' := by
  by_cases hp : pos < bs.length
  · have hx : 1 < bs.getD pos 0 := by
      unfold boolAt at hs
      rw [dif_pos hp] at hs
      split at hs
      · cases hs
      · rw [List.getD_eq_getElem?_getD, List.getElem?_eq_getElem hp]; show 1 < bs[pos]; omega
    obtain ⟨b, off, rfl, hc⟩ := h pos hp
    generalize bs.getD pos 0 = x at hc hx
    have t1 : (x : Int) > 1 := by omega
    have t2 : ¬ (pos : Int) ≥ (bs.length : Int) := by omega
    have tc : pos < cap := by omega
    have hc2 : ((w.alloc (.cells #[.int .i64 0, .int .u64 0, .int .i64 0, .bool false, .string ⟨#[]⟩, .int .i64 0] 37)).alloc (.cells #[.int .i64 3, .int .u64 0, .int .i64 0, .bool false, .string ⟨#[]⟩, .int .i64 most] 37)).cell? ⟨b, off + pos, none⟩ = some (.int .u8 (x : Int)) := ((below_two w _ _).cell (p := ⟨b, off + pos, none⟩) (bytes_lt hc)).trans hc
    clear hc h hs
    go_enter Try.func39, Try.ntmps39
    go_wp2_with (fail)
    refine ⟨rfl, _, results_cell3 rfl _ _ w.heap.size _ _ _ _ rfl ((row_under _ _ _).trans (heap_alloc_new _ _)) Try.underlying37 rfl (by kernel_rfl), ?_⟩
    exact ⟨rfl, below_two _ _ _⟩
  · have t2 : (pos : Int) ≥ (bs.length : Int) := by omega
    clear h hs
    go_enter Try.func39, Try.ntmps39
    go_wp2_with (fail)
    refine ⟨rfl, _, results_cell3 rfl _ _ w.heap.size _ _ _ _ rfl ((row_under _ _ _).trans (heap_alloc_new _ _)) Try.underlying37 rfl (by kernel_rfl), ?_⟩
    exact ⟨rfl, below_two _ _ _⟩
set_option maxRecDepth 100000 in
set_option maxHeartbeats 4000000 in
theorem refread_3 (a : Option Addr) (cap : Nat) (bs : List Nat) (pos : Nat) (most : Int) (v : Bool) (hsz : bs.length ≤ 1000) (hcap : bs.length ≤ cap) (hs : boolAt bs pos = some v) (w : World) (h : Bytes w a bs) :
    Calls Try.prog 39 #[.slice a bs.length cap, .int .i64 pos, .int .i64 3, .int .i64 most] w fun e w' => e = readE (⟨3, 0, 0, v, ByteArray.empty, most⟩, pos + 1, 0) ∧ Below w.heap.size w w' := by
  have hp : pos < bs.length := by
    unfold boolAt at hs
    split at hs
    · assumption
    · cases hs
  have hx : bs.getD pos 0 ≤ 1 ∧ v = (bs.getD pos 0 == 1) := by
    unfold boolAt at hs
    rw [dif_pos hp] at hs
    rw [List.getD_eq_getElem?_getD, List.getElem?_eq_getElem hp]
    show bs[pos] ≤ 1 ∧ v = (bs[pos] == 1)
    split at hs
    · cases hs; exact ⟨by assumption, rfl⟩
    · cases hs
  obtain ⟨b, off, rfl, hc⟩ := h pos hp
  obtain ⟨hx1, rfl⟩ := hx
  generalize bs.getD pos 0 = x at hc hx1
  have t1 : ¬ (x : Int) > 1 := by omega
  have t2 : ¬ (pos : Int) ≥ (bs.length : Int) := by omega
  have tc : pos < cap := by omega
  have hc2 : ((w.alloc (.cells #[.int .i64 0, .int .u64 0, .int .i64 0, .bool false, .string ⟨#[]⟩, .int .i64 0] 37)).alloc (.cells #[.int .i64 3, .int .u64 0, .int .i64 0, .bool false, .string ⟨#[]⟩, .int .i64 most] 37)).cell? ⟨b, off + pos, none⟩ = some (.int .u8 (x : Int)) := ((below_two w _ _).cell (p := ⟨b, off + pos, none⟩) (bytes_lt hc)).trans hc
  have hb : ((x : Int) == 1) = (x == 1) := int_beq x 1
  clear hc h hs
  go_enter Try.func39, Try.ntmps39
  go_wp2_with (fail)
  refine ⟨rfl, _, results_cell3 rfl _ _ w.heap.size _ _ _ _ rfl ((row_under _ _ _).trans (heap_alloc_new _ _)) Try.underlying37 rfl (by kernel_rfl), ?_⟩
  exact ⟨by unfold readE RV.val; simp; rfl, below_two _ _ _⟩
end Go.Proofs.Ytfdbdhknamkipaa
