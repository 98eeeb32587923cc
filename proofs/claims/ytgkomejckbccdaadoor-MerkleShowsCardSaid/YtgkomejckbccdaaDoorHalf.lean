import Derived.Test.YtgkomejckbccdaaDoorRootM
import Derived.BigRegion
namespace Go.Proofs.YtgkomejckbccdaaDoor
open Go.RowKit
theorem results_cell_two {P : Program} {fn : Func} {p q : Tmp} {ty : TypeId} (h : fn.results = #[.cell p ty, .cell q ty]) (tmps : Array Value) (w : World) (g k : Nat) (t : TypeId) (cs ds : Array Value) (fr fq : Nat × Nat) (d : TypeDesc)
    (hp : tmps.getD p undef = .pointer (some ⟨g, 0, none⟩)) (hq : tmps.getD q undef = .pointer (some ⟨k, 0, none⟩)) (hg : w.heap[g]? = some (.cells cs t fr)) (hk : w.heap[k]? = some (.cells ds t fq))
    (hu : P.underlying ty = some d) (hd : (match d with | .struct _ | .array _ _ => true | _ => false) = true) (hi : (P.info? ty).map (·.size) = some cs.size) (hj : (P.info? ty).map (·.size) = some ds.size) :
    (results fn tmps).run P w = .ok (.tuple #[.agg cs, .agg ds]) w := by
  have hp' : tmps[p]?.getD undef = .pointer (some ⟨g, 0, none⟩) := by simpa using hp
  have hq' : tmps[q]?.getD undef = .pointer (some ⟨k, 0, none⟩) := by simpa using hq
  simp [results, h, hp', hq', asAddr, run_loadVar_row w g t ty cs fr d hg hu hd hi, run_loadVar_row w k t ty ds fq d hk hu hd hj]
theorem third_mid (w : World) (a b c : Obj) : ((((w.alloc a).alloc b).alloc c).drew).heap[w.heap.size + 1]? = some b := by
  have h1 := heap_alloc_new (w.alloc a) b
  have e1 : (w.alloc a).heap.size = w.heap.size + 1 := World.size_alloc w a
  have e2 : ((w.alloc a).alloc b).heap.size = (w.alloc a).heap.size + 1 := World.size_alloc _ b
  rw [e1] at h1
  exact (Below.heap_alloc ((w.alloc a).alloc b) c (w.heap.size + 1) (by omega)).trans h1
theorem third_last (w : World) (a b c : Obj) : ((((w.alloc a).alloc b).alloc c).drew).heap[w.heap.size + 1 + 1]? = some c := by
  have h1 := heap_alloc_new ((w.alloc a).alloc b) c
  have e1 : (w.alloc a).heap.size = w.heap.size + 1 := World.size_alloc w a
  have e2 : ((w.alloc a).alloc b).heap.size = (w.alloc a).heap.size + 1 := World.size_alloc _ b
  rw [e2, e1] at h1
  exact h1
theorem third_below (w : World) (a b c : Obj) : Below w.heap.size w ((((w.alloc a).alloc b).alloc c).drew) := by
  have e1 : (w.alloc a).heap.size = w.heap.size + 1 := World.size_alloc w a
  have e2 : ((w.alloc a).alloc b).heap.size = (w.alloc a).heap.size + 1 := World.size_alloc _ b
  exact ((((Below.refl _ _).alloc (Nat.le_refl _) _).alloc (by omega) _).alloc (by omega) _).drew
theorem infoPt : (Tryd.prog.info? 72).map (·.size) = some 2 := by kernel_rfl
/-- a part as a value -/
def pt (f c : Nat) : Value := .agg #[.int .i64 (f : Int), .int .i64 (c : Int)]
set_option maxRecDepth 100000 in
theorem halves_any (f c k g m : Nat) (hk : Hid (Mk.spl c = k)) (hg : Hid (f + k = g)) (hm : Hid (c - k = m)) (h2 : 2 ≤ c) (hc : c ≤ 140737488355328) (hf : f ≤ 140737488355328) (w : World) :
    Calls Tryd.prog 83 #[pt f c] w fun e w' => e = .returned (.tuple #[pt f k, pt g m]) ∧ Below w.heap.size w w' := by
  have hkl : Hid (k < c) := by show _ < _; rw [← hk.out]; exact Mk.spl_lt h2
  have e1 : (f : Int) + (k : Int) = (g : Int) := by have := hg.out; omega
  have e2 : (c : Int) - (k : Int) = (m : Int) := by have := hm.out; have := hkl.out; omega
  have e3 : IntKind.i64.wrap (f + k) = (g : Int) := by rw [e1]; have := hg.out; have := hkl.out; exact IntWalk.i64_in _ (by omega)
  have e4 : IntKind.i64.wrap (c - k) = (m : Int) := by rw [e2]; have := hm.out; have := hkl.out; exact IntWalk.i64_in _ (by omega)
  unfold pt
  go_enter Tryd.func83, Tryd.ntmps83
  go_wp2_with (fail)
  refine (splitz_any c k hk.out h2 (by omega) _).mono ?_
  rintro e w1 ⟨rfl, rfl⟩
  go_wp2_with (fail)
  go_region
  go_wp2
  refine bodyPost_ret (v := .tuple #[pt f k, pt g m]) (results_cell_two (g := w.heap.size + 1) (k := w.heap.size + 1 + 1) Tryd.results83 _ _ 72 _ _ (0, 0) (0, 0) _ rfl rfl ?_ ?_ Tryd.underlying72 rfl infoPt infoPt) rfl ⟨rfl, ?_⟩
  · exact third_mid _ _ _ _
  · exact third_last _ _ _ _
  · exact third_below _ _ _ _
end Go.Proofs.YtgkomejckbccdaaDoor
