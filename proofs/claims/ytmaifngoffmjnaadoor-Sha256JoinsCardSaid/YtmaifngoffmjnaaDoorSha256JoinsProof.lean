/-
  kinkeeplaw03.Sha256Joins returns true for every input, and what its arguments read is as it was. No condition but the tied start of the listed variables.
-/
import Derived.Test.YtmaifngoffmjnaaDoorRows
import Derived.Test.YtmaifngoffmjnaaDoorJoins
import Derived.Test.YtmaifngoffmjnaaDoorLaidW
import Derived.Test.YtmaifngoffmjnaaDoorTie
import Derived.Test.YtmaifngoffmjnaaDoorCards
import Derived.SevenTiedAt
import Derived.WalkKit
import Derived.ProofKit
import Derived.OpenShut
import Derived.ShutString
import Derived.ChangeOld
import Derived.Below
import Derived.SliceStrings
import Derived.SizedLaws
namespace Go.Proofs.YtmaifngoffmjnaaDoor.sha256Joins
open Go.ChangeShapes Go.WideShapes Go.ChangeAt Go.RowKit
open Go.ChangeMaps (open_string shut_string)
set_option linter.unusedVariables false

theorem own : ownKnob Tryd.prog.godebug = none := by kernel_rfl
theorem laidOut : laidOutB Tryd.prog = true := by kernel_rfl

theorem mem_weights {H : Type} (ss : List ByteArray) (s : ByteArray) (hs : s ∈ ss) : s.size ∈ DataW.weightsAll (H := H) Tryd.prog 9 (strs ss) := by
  induction ss with
  | nil => simp at hs
  | cons a r ih =>
    simp only [strs, List.map_cons, DataW.weightsAll, DataW.weights, List.mem_append, List.mem_singleton, Array.length_toList]
    rcases List.mem_cons.1 hs with h | h
    · left; rw [h]; rfl
    · right; exact ih h

set_option maxRecDepth 100000 in
theorem lifted (os : Os) (started : os.Started) (H : Type) (enc : TypeId × Value → H) :
    ReturnsInHanded {} Tryd.checked os 7 .any (fun w args => (Rows.sha256JoinsSpec.pre enc Tryd.prog Tryd.f7 [] false w args ∧ laidMetH Tryd.prog laidL w) ∧ sizedMet enc Tryd.prog Tryd.f7 (OpenSpec.ofChange Rows.sha256JoinsSpec) false w args) (Rows.sha256JoinsSpec.post enc Tryd.prog Tryd.f7 false true false false) := by
  refine returnsInHanded_of_change_and (C := Tryd.checked) (X := fun w _ => laidMetH Tryd.prog laidL w) (fun _ _ _ hh h => h.of_heap hh) own started (by kernel_rfl) Tryd.func7
    (ChangeSpec.witness_shaped (enc := enc) (C := Tryd.checked) (os := os) (X := fun w _ => laidMetH Tryd.prog laidL w) false (World.doorLaid Tryd.prog 400 os) #[.slice none 0 0] 8 rfl (World.shaped_of_RefB (by kernel_rfl) (by kernel_rfl)) (by kernel_rfl) (by kernel_rfl) (by kernel_rfl) (door_met os _)) ?_
  intro W base args ds gs before hval0 hW y1 y2 hL y3
  have hval : ∀ (j : Nat) t v, Tryd.f7.params[j]? = some t → args[j]? = some v → Value.okWide Tryd.prog W .any base t v := hval0
  have hW' := hW
  obtain ⟨p, q, hA0, hV, rfl, hfz, hnd⟩ := hW
  have hA : DataW.TrodAll enc Tryd.prog W 0 (fun _ => true) true Tryd.f7.params.toList args.toList ds p := hA0
  rw [Tryd.params7] at hA hval
  obtain ⟨v0, vs0, d0, ds0, p0, q0, hargs, rfl, rfl, h0, r0⟩ := trodAll_cons hA
  obtain ⟨rfl, rfl, rfl⟩ := trodAll_nil r0
  obtain rfl : args = #[v0] := by cases args; simp_all
  obtain ⟨rfl, rfl⟩ := trodVars_none hV
  obtain ⟨a0, len0, cap0, rfl⟩ := okWide_slice Tryd.underlying41 (hval 0 41 v0 rfl rfl)
  have k0 := h0
  have lt0 : ∀ x ∈ p0, x.block < W.heap.size := by obtain ⟨m, hm⟩ := k0; exact DataW.trod_lt m _ _ _ hm
  obtain ⟨tt, ht, hm, hst, hlen⟩ : ∃ tt : List ByteArray, tt.length = len0 ∧ (∀ s ∈ tt, s.size ≤ 140737488355328) ∧ Strs W a0 tt ∧ tt.length ≤ 140737488355328 := by
    obtain ⟨fuel, hf⟩ := h0
    rcases open_strings Tryd.underlying41 Tryd.underlying9 (by kernel_rfl) hf with ⟨hcs, _⟩ | ⟨x, l, c, ss, hcs, _, hl, _, hlen, hx, hcell, _⟩
    · simp [Value.cells] at hcs
      obtain ⟨rfl, rfl, rfl⟩ := hcs
      exact ⟨[], rfl, fun s hs => by simp at hs, fun i hi => by simp at hi, by simp⟩
    · simp [Value.cells] at hcs
      obtain ⟨rfl, rfl, rfl⟩ := hcs
      have hlen' : ss.length = cap0 := by simpa using hlen
      have hd : d0 = .slice (strs (ss.take len0)) (strs (ss.drop len0)) := congrArg Prod.fst hx
      have hr : reachBytes < 140737488355328 := reachBytes_lt
      have hcount := sized_slice y2 (j := 0) (t := 41) (e := 9) rfl (by rw [hd]; rfl) Tryd.underlying41
      rw [show Tryd.checked.prog.bytesOf 9 = 16 by kernel_rfl] at hcount
      have hsize : ∀ s ∈ ss.take len0, s.size ≤ reachBytes := by
        intro s hs
        have hmem : s.size ∈ d0.weights Tryd.prog 41 := by
          rw [hd]
          simp only [DataW.weights, Tryd.underlying41]
          exact List.mem_cons_of_mem _ (List.mem_append_left _ (mem_weights _ s hs))
        have := List.all_eq_true.1 y2 _ (DataW.weights_mem_each (j := 0) (t := 41) (d := d0) rfl rfl s.size hmem)
        simpa using this
      refine ⟨ss.take len0, by rw [List.length_take]; omega, fun s hs => by have := hsize s hs; omega, fun i hi => ?_, ?_⟩
      · rw [List.length_take] at hi
        obtain ⟨b, off, spot⟩ := x
        have hc := hcell i (by omega)
        have hc0 := hcell 0 (by omega)
        have hspot : spot = none := by simpa [Addr.add] using World.cell?_spot hc0
        subst hspot
        have hadd : (⟨b, off, none⟩ : Addr).add i = ⟨b, off + i, none⟩ := by unfold Addr.add; split <;> simp_all
        rw [hadd] at hc
        refine ⟨b, off, rfl, ?_⟩
        rw [hc]
        have hi2 : i < len0 := by omega
        have hi3 : i < ss.length := by omega
        simp [List.getD, hi2]
      · simp only [strs, List.length_map, List.length_take] at hcount ⊢
        omega
  subst ht
  clear hA0 hval0
  refine (joins_walk a0 cap0 tt hlen hm W (of_laid hL) hst).mono fun e W' ⟨he, bel⟩ => ?_
  subst he
  exact ⟨_, rfl, _, _, _, [], _, [], hW', trodAll_mk1 (shut_bool Tryd.underlying4 _), (trodAll_cons_mk (Below.trod laidOut (by kernel_rfl) (of_decide_eq_true (by kernel_rfl)) k0 bel lt0) trodAll_mk0), rfl, bel.frame _, fun h => by cases h⟩

theorem over : Rows.sha256JoinsRow.holds Tryd.pinned (OpenSpec.ofChange Rows.sha256JoinsSpec) :=
  OpenClaim.holds_of_wide 7 Tryd.f7 rfl rfl rfl rfl rfl rfl rfl ⟨rfl, rfl, rfl, rfl, rfl⟩ rfl rfl rfl rfl rfl (by kernel_rfl) Tryd.func7 (by kernel_rfl)
    (of_decide_eq_true (by kernel_rfl)) (by unfold Func.isWrapper; first | (rw [if_pos (by decide +kernel)]; kernel_rfl) | (rw [if_neg (by decide +kernel)]; exact ⟨rfl, rfl⟩))
    (fun os started H enc _ => lifted os started H enc)

theorem proved : Rows.Sha256JoinsCardSaid :=
  Claim7.holds_tied_plain_at .later [] [.data, .data] true (true, "da0f8d6279dd28074470da255500e05d0312e6b6b8de55d13b7e191f83203d1f") false
    over (fun _ h => by cases h) (by kernel_rfl) (fun _ h => by cases h) sha256Joins_row_tie rfl ⟨rfl, rfl⟩ (by kernel_rfl) rfl
    (fun f fn hf hfn => by
      obtain rfl : f = 7 := Option.some.inj ((show Tryd.prog.funcNamed "kinkeep/kinkeeplaw03.Sha256Joins" = some 7 by kernel_rfl).symm.trans hf) |>.symm
      obtain rfl : fn = Tryd.f7 := (Option.some.inj (Tryd.func7.symm.trans hfn)).symm
      exact ⟨by kernel_rfl, fun j t ht => by
        rw [Tryd.params7] at ht
        have hm : t ∈ [41] := by simpa using Array.mem_of_getElem? ht
        have hall : ([41].all fun u => !Tryd.prog.wantsStandIn u) = true := by kernel_rfl
        exact (show Tryd.prog.wantsStandIn t = false by simpa using List.all_eq_true.1 hall t hm)⟩)
    (by kernel_rfl)
#print axioms proved
end Go.Proofs.YtmaifngoffmjnaaDoor.sha256Joins
