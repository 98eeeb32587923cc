/-
  kinkeeplaw03.Sha256State returns true for every input, and what its arguments read is as it was. No condition but the tied start of the listed variables.
-/
import Derived.Test.YtpfekbbmbdegbaaDoorRows
import Derived.Test.YtpfekbbmbdegbaaDoorStW
import Derived.Test.YtpfekbbmbdegbaaDoorLaidW
import Derived.Test.YtpfekbbmbdegbaaDoorFrame
import Derived.Test.YtpfekbbmbdegbaaDoorTie
import Derived.Test.YtpfekbbmbdegbaaDoorCards
import Derived.SevenTiedAt
import Derived.WalkKit
import Derived.ProofKit
import Derived.OpenShut
import Derived.Below
import Derived.ChangeOld
import Derived.ShutString
import Derived.SizedLaws
namespace Go.Proofs.YtpfekbbmbdegbaaDoor.sha256State
open Go.ChangeShapes Go.WideShapes Go.ChangeAt Go.RowKit
open Go.ChangeMaps (open_string shut_string)
set_option linter.unusedVariables false

theorem own : ownKnob Tryd.prog.godebug = none := by kernel_rfl
theorem laidOut : laidOutB Tryd.prog = true := by kernel_rfl

set_option maxRecDepth 100000 in
theorem lifted (os : Os) (started : os.Started) (H : Type) (enc : TypeId × Value → H) :
    ReturnsInHanded {} Tryd.checked os 3 .any (fun w args => (Rows.sha256StateSpec.pre enc Tryd.prog Tryd.f3 [] false w args ∧ laidMetH Tryd.prog laidL w) ∧ sizedMet enc Tryd.prog Tryd.f3 (OpenSpec.ofChange Rows.sha256StateSpec) false w args) (Rows.sha256StateSpec.post enc Tryd.prog Tryd.f3 false true false false) := by
  refine returnsInHanded_of_change_and (C := Tryd.checked) (X := fun w _ => laidMetH Tryd.prog laidL w) (fun _ _ _ hh h => h.of_heap hh) own started (by kernel_rfl) Tryd.func3
    (ChangeSpec.witness_shaped (enc := enc) (C := Tryd.checked) (os := os) (X := fun w _ => laidMetH Tryd.prog laidL w) false (World.doorLaid Tryd.prog 400 os) #[.slice none 0 0] 8 rfl (World.shaped_of_RefB (by kernel_rfl) (by kernel_rfl)) (by kernel_rfl) (by kernel_rfl) (by kernel_rfl) (door_met os _)) ?_
  intro W base args ds gs before hval0 hW y1 y2 hL y3
  have hval : ∀ (j : Nat) t v, Tryd.f3.params[j]? = some t → args[j]? = some v → Value.okWide Tryd.prog W .any base t v := hval0
  have hW' := hW
  obtain ⟨p, q, hA0, hV, rfl, hfz, hnd⟩ := hW
  have hA : DataW.TrodAll enc Tryd.prog W 0 (fun _ => true) true Tryd.f3.params.toList args.toList ds p := hA0
  rw [Tryd.params3] at hA hval
  obtain ⟨v0, vs0, d0, ds0, p0, q0, hargs, rfl, rfl, h0, r0⟩ := trodAll_cons hA
  obtain ⟨rfl, rfl, rfl⟩ := trodAll_nil r0
  obtain rfl : args = #[v0] := by cases args; simp_all
  obtain ⟨rfl, rfl⟩ := trodVars_none hV
  obtain ⟨a0, len0, cap0, rfl⟩ := okWide_slice Tryd.underlying22 (hval 0 22 v0 rfl rfl)
  have k0 := h0
  have lt0 : ∀ x ∈ p0, x.block < W.heap.size := by obtain ⟨m, hm⟩ := k0; exact DataW.trod_lt m _ _ _ hm
  obtain ⟨S0, K0, A0, L0, C0, B0, w0, lc0, mc0, hl0, hS0⟩ : ∃ S K A L C bs, OpsR W a0 len0 S K A L C bs ∧ len0 ≤ cap0 ∧ cap0 ≤ maxLen ∧ len0 ≤ 140737488355328 ∧ ∀ i, i < len0 → L i ≤ 140737488355328 := by
    obtain ⟨fuel, hf⟩ := h0
    obtain ⟨S, K, A, L, C, bs, h1, h2, h3, h4, h5⟩ := ops_open hf
    have hr : reachBytes < 140737488355328 := reachBytes_lt
    have hall : ∀ m ∈ d0.weights Tryd.prog 22, m ≤ 140737488355328 := by
      intro m hm
      have h6 := List.all_eq_true.1 y2 _ (DataW.weights_mem_each (j := 0) (t := 22) (d := d0) rfl rfl m hm)
      have h7 : m ≤ reachBytes := by simpa using h6
      omega
    refine ⟨S, K, A, L, C, bs, h1, h2, h3, ?_, fun i hi => ?_⟩
    · rcases h4 with h | ⟨m, hm, hle⟩
      · omega
      · exact Nat.le_trans hle (hall m hm)
    · obtain ⟨m, hm, hle⟩ := h5 i hi
      exact Nat.le_trans hle (hall m hm)
  clear hA0 hval0
  refine (state_walk a0 len0 cap0 S0 K0 A0 L0 C0 B0 W (of_laid hL) w0 lc0 hl0 hS0).mono fun e W' ⟨he, bel⟩ => ?_
  subst he
  exact ⟨_, rfl, _, _, _, [], _, [], hW', trodAll_mk1 (shut_bool Tryd.underlying4 _), (trodAll_cons_mk (Below.trod laidOut (by kernel_rfl) (of_decide_eq_true (by kernel_rfl)) k0 bel lt0) trodAll_mk0), rfl, bel.frame _, fun h => by cases h⟩

theorem over : Rows.sha256StateRow.holds Tryd.pinned (OpenSpec.ofChange Rows.sha256StateSpec) :=
  OpenClaim.holds_of_wide 3 Tryd.f3 rfl rfl rfl rfl rfl rfl rfl ⟨rfl, rfl, rfl, rfl, rfl⟩ rfl rfl rfl rfl rfl (by kernel_rfl) Tryd.func3 (by kernel_rfl)
    (of_decide_eq_true (by kernel_rfl)) (by unfold Func.isWrapper; first | (rw [if_pos (by decide +kernel)]; kernel_rfl) | (rw [if_neg (by decide +kernel)]; exact ⟨rfl, rfl⟩))
    (fun os started H enc _ => lifted os started H enc)

theorem proved : Rows.Sha256StateCardSaid :=
  Claim7.holds_tied_plain_at .later [] [.data, .data] true (true, "b14b0f952ba7d50e16665a2029ae743b1884e1c9acff7fca3da230aaf6891276") false
    over (fun _ h => by cases h) (by kernel_rfl) (fun _ h => by cases h) sha256State_row_tie rfl ⟨rfl, rfl⟩ (by kernel_rfl) rfl
    (fun f fn hf hfn => by
      obtain rfl : f = 3 := Option.some.inj ((show Tryd.prog.funcNamed "kinkeep/kinkeeplaw03.Sha256State" = some 3 by kernel_rfl).symm.trans hf) |>.symm
      obtain rfl : fn = Tryd.f3 := (Option.some.inj (Tryd.func3.symm.trans hfn)).symm
      exact ⟨by kernel_rfl, fun j t ht => by
        rw [Tryd.params3] at ht
        have hm : t ∈ [22] := by simpa using Array.mem_of_getElem? ht
        have hall : ([22].all fun u => !Tryd.prog.wantsStandIn u) = true := by kernel_rfl
        exact (show Tryd.prog.wantsStandIn t = false by simpa using List.all_eq_true.1 hall t hm)⟩)
    (by kernel_rfl)
#print axioms proved
end Go.Proofs.YtpfekbbmbdegbaaDoor.sha256State
