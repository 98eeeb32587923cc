import Derived.Test.YtegfbmekpmdcaaaDoorBytes
namespace Go.Proofs.YtegfbmekpmdcaaaDoor
open Go.RowKit
theorem infoSt {cs : Array Value} (h : cs.size = 73) : (Tryd.prog.info? 94).map (·.size) = some cs.size := by rw [h]; kernel_rfl
def zeroBf : List Nat := List.replicate 64 0
def zeroS : Sh.St := ⟨0, 0, 0, 0, 0, 0, 0, 0⟩
theorem zeroSt (w : World) : (zeroValue 94).run Tryd.prog w = .ok (.agg (stC zeroS zeroBf 0).toArray) w := by kernel_rfl
theorem stC_one (s : Sh.St) (bf : List Nat) (n : Nat) : (stC s bf n).toArray.all (·.oneCell') = true := by
  rw [Array.all_eq_true_iff_forall_mem]
  intro x hx
  simp only [stC, List.mem_toArray, List.mem_append, List.mem_singleton] at hx
  rcases hx with hx | hx | rfl
  · simp [stA] at hx
    rcases hx with rfl | rfl | rfl | rfl | rfl | rfl | rfl | rfl <;> rfl
  · exact vals_one x hx
  · rfl
theorem stC_size (s : Sh.St) (bf : List Nat) (n : Nat) (h : bf.length = 64) : (stC s bf n).toArray.size = 73 := by rw [List.size_toArray, stC_len _ _ _ h]
theorem zeroBf_len : zeroBf.length = 64 := by simp [zeroBf]
theorem zeroBf_lt : ∀ x ∈ zeroBf, x < 256 := by intro x hx; simp [zeroBf] at hx; omega
theorem builtSt : Tryd.prog.built 94 [(0, .agg (stA Sh.H0))] = some (stC Sh.H0 zeroBf 0).toArray := by kernel_rfl
theorem wpList_build_is {P : Program} {ops : Array Oper} {rest : List Oper} {o : Oper} {a : Act} {w : World} {Q : Exit → Act → World → Prop} (hg : o.guard = none) (t : TypeId) (parts : Array (Nat × Operand)) (ho : o.op = .build t parts) (cs : Array Value)
    (hf : P.built t (parts.map fun (i, x) => (i, a.eval x)).toList = some cs) (h : wpList P ops Q rest (a.put o.dst (.agg cs)) w) : wpList P ops Q (o :: rest) a w :=
  wpList_build hg t parts ho (by rw [hf]; rfl) (by rw [hf]; exact h)
set_option maxRecDepth 100000 in
theorem new_any (w : World) (hL : Laid w) :
    Calls Tryd.prog 68 #[] w fun e w' => e = .returned (.pointer (some ⟨w.heap.size, 0, none⟩)) ∧ SR w' w.heap.size [] ∧ Below w.heap.size w w' := by
  obtain ⟨t, fr, hh⟩ := hL.h
  have hres : Hid (SR (w.alloc (.cells (stC Sh.H0 zeroBf 0).toArray 94)) w.heap.size []) := ⟨hL.two, zeroBf, Sh.held_nil _ zeroBf_len zeroBf_lt, Blk.new _ _ _⟩
  go_enter Tryd.func68, Tryd.ntmps68
  go_wp2_with (first | (refine wpList_load_row rfl 85 _ rfl 1 rfl t (stA Sh.H0) fr _ hh Tryd.underlying85 rfl info8w ?_) | (refine wpList_build_is rfl 94 _ rfl (stC Sh.H0 zeroBf 0).toArray ?hb ?_))
  case hb => exact builtSt
  go_ret
  exact ⟨rfl, hres.out, (Below.refl _ _).alloc (Nat.le_refl _) _⟩
theorem smWrite_any (g : Nat) (ys : List Nat) (a : Option Addr) (cap : Nat) (xs : List Nat) (hx : ∀ x ∈ xs, x < 256) (hbig : ys.length + xs.length ≤ 140737488355328) (hcap : xs.length ≤ cap) (w : World) (hL : Laid w) (hS : SR w g ys) (h : Bytes w a xs) (hne : 0 < xs.length → ∀ x, a = some x → x.block ≠ g) :
    Calls Tryd.prog 69 #[.pointer (some ⟨g, 0, none⟩), .slice a xs.length cap] w fun e w' => e = .returned (.tuple #[]) ∧ SR w' g (ys ++ xs) ∧ w.grownBy w' (some g) := by
  go_enter Tryd.func69, Tryd.ntmps69
  go_wp2_with (fail)
  refine (write_any g ys a cap xs hx hbig hcap _ hL hS h hne).mono ?_
  rintro e w1 ⟨rfl, h1, h2⟩
  go_wp2_with (fail)
  go_end0
  exact ⟨rfl, h1, h2⟩
end Go.Proofs.YtegfbmekpmdcaaaDoor
