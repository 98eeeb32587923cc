import Derived.Test.YtfdbdhknamkipaaVs
import Derived.Deep.MidRow
namespace Go.Proofs.Ytfdbdhknamkipaa
open Go.RowKit
theorem cells_lt {w : World} {b o : Nat} {v : RV} (h : w.rangeAt b o v.cells) : b < w.heap.size := bytes_lt (h 0 _ rfl)
theorem range_keep {w w' : World} {b o : Nat} {v : RV} (h : w.rangeAt b o v.cells) (hb : w'.heap[b]? = w.heap[b]?) : w'.rangeAt b o v.cells := fun j u hj =>
  (World.cell?_of_block (a := ⟨b, o + j, none⟩) (show w'.heap[b]? = w.heap[b]? from hb)).trans (h j u hj)
theorem VR.below {w w' : World} {a : Option Addr} {len : Nat} {V : Nat → RV} (h : VR w a len V) (hb : Below w.heap.size w w') : VR w' a len V :=
  ⟨fun i hi => by
    obtain ⟨b, off, h1, h2⟩ := h.top i hi
    exact ⟨b, off, h1, range_keep h2 (hb.block b (cells_lt h2))⟩, h.ok⟩
theorem VR.blk {w : World} {a : Option Addr} {len : Nat} {V : Nat → RV} (h : VR w a len V) (k : Nat) (hk : k < len) : ∃ b off, a = some ⟨b, off, none⟩ ∧ w.rangeAt b (off + k * 6) (V k).cells ∧ b < w.heap.size := by
  obtain ⟨b, off, h1, h2⟩ := h.top k hk
  exact ⟨b, off, h1, h2, cells_lt h2⟩
theorem infoV6 : (Try.prog.info? 37).map (·.size) = some 6 := by kernel_rfl
theorem infoV (v : RV) : (Try.prog.info? 37).map (·.size) = some v.cells.length := infoV6
/-- what small says -/
def SmallV (len : Nat) (V : Nat → RV) : Prop := len ≤ 40 ∧ ∀ i, i < len → (V i).s.size ≤ 400
def SmR (len : Nat) (V : Nat → RV) (e : Ending) : Prop := ∃ b : Bool, e = .returned (.bool b) ∧ (b = true → SmallV len V)
set_option maxRecDepth 100000 in
theorem small_any (a : Option Addr) (len cap : Nat) (V : Nat → RV) (hcap : len ≤ cap) (hlen : len ≤ 140737488355328) (w : World) (h : VR w a len V) :
    Calls Try.prog 10 #[.slice a len cap] w fun e w' => SmR len V e ∧ w = w' := by
  go_enter Try.func10, Try.ntmps10
  go_wp2
  go_loopw [3] (fun i wr => ∃ k : Nat, k ≤ len ∧ i = .int .i64 k ∧ Hid (∀ j, j < k → (V j).s.size ≤ 400) ∧ wr = w) (fun i _ => len - (intOf i).toNat)
  case atStart => exact ⟨0, by omega, rfl, fun j hj => absurd hj (Nat.not_lt_zero _), rfl⟩
  case round =>
    obtain ⟨k, hk, rfl, hs, rfl⟩ := hrel
    by_cases hlt : k < len
    · obtain ⟨b, off, rfl, hr, -⟩ := h.blk k hlt
      have c4 := hr 4 _ rfl
      obtain ⟨s, hs2⟩ : ∃ s, Hid ((V k).s = s) := ⟨_, rfl⟩
      rw [hs2.out] at c4
      have t1 : k < cap := by omega
      by_cases h400 : 400 < s.size
      · have t2 : (s.size : Int) > 400 := by omega
        clear hr h
        go_wp2
        go_ret
        exact ⟨⟨false, rfl, fun h => by cases h⟩, rfl⟩
      · have t2 : ¬ (s.size : Int) > 400 := by omega
        have hs3 : Hid (∀ j, j < k + 1 → (V j).s.size ≤ 400) := fun j hj => by
          by_cases e : j = k
          · subst e; rw [hs2.out]; omega
          · exact hs.out j (by omega)
        clear hr hs
        go_wp2
        go_roundw
        case rel => exact ⟨k + 1, by omega, by go_num, hs3, trivial⟩
        case measure => simp [intOf]; omega
    · obtain rfl : k = len := by omega
      clear h
      go_wp2
      go_ret
      exact ⟨⟨decide ((k : Int) ≤ 40), rfl, fun h => ⟨by simp at h; omega, hs.out⟩⟩, rfl⟩
/-- what is written of the first k values -/
def putAll (V : Nat → RV) : Nat → List Nat × Nat
  | 0 => ([], 0)
  | k + 1 => putStep (putAll V k) (V k)
theorem putB_len {v : RV} {ds : List Nat} (h : putB v = .inr ds) : ds.length ≤ v.s.size + 10 := by
  unfold putB at h
  split at h
  · cases h; have := (En.enc_len v.u).2; omega
  split at h
  · cases h; have := (En.enc_len (zig v.n)).2; omega
  split at h
  · cases h; simp
  split at h
  · cases h; have := (En.enc_len v.s.size).2; rw [List.length_append, ofStr_len]; omega
  split at h
  · split at h
    · cases h; rw [ofStr_len]; omega
    · cases h
  split at h
  · split at h
    · cases h
    · cases h; have := (En.enc_len v.n.toNat).2; omega
  · cases h; simp
theorem putStep_len (p : List Nat × Nat) (v : RV) : (putStep p v).1.length ≤ p.1.length + v.s.size + 10 := by
  unfold putStep
  split
  · omega
  · split
    · rename_i ds h; have := putB_len h; rw [List.length_append]; omega
    · show p.1.length ≤ _; omega
theorem putAll_len {V : Nat → RV} {len : Nat} (h : ∀ i, i < len → (V i).s.size ≤ 400) : ∀ k, k ≤ len → (putAll V k).1.length ≤ 410 * k
  | 0, _ => Nat.le_refl _
  | k + 1, hk => by
    have h1 := putStep_len (putAll V k) (V k)
    have h2 := putAll_len h k (by omega)
    have h3 := h k (by omega)
    show (putStep (putAll V k) (V k)).1.length ≤ _
    omega
/-- what encoded returns -/
def encV (p : List Nat × Nat) : Sum Nat (List Nat) := if p.2 ≠ 0 then .inl p.2 else .inr p.1
def EncPost (w : World) (r : Sum Nat (List Nat)) (e : Ending) (w' : World) : Prop :=
  Below w.heap.size w w' ∧ (match r with
    | .inl er => e = .returned (.tuple #[.slice none 0 0, .int .i64 er])
    | .inr bs => ∃ a cap, e = .returned (.tuple #[.slice a bs.length cap, .int .i64 0]) ∧ w'.ownsRow w.heap.size 5 1 (.slice a bs.length cap) bs.length (vals bs))
set_option maxRecDepth 100000 in
set_option maxHeartbeats 1000000 in
theorem encoded_any (a : Option Addr) (len cap : Nat) (V : Nat → RV) (hcap : len ≤ cap) (hS : SmallV len V) (w : World) (h : VR w a len V) :
    Calls Try.prog 11 #[.slice a len cap] w (EncPost w (encV (putAll V len))) := by
  have hSh := hidIt hS
  have hlen : len ≤ 40 := hS.1
  clear hS
  go_enter Try.func11, Try.ntmps11
  go_wp2_with (fail)
  refine (newWriter_any _).mono ?_
  rintro e w1 ⟨rfl, hW1, hb1⟩
  have W1 := hidIt hW1
  have H1 := hidIt hb1
  clear hW1 hb1
  obtain ⟨B, hB⟩ : ∃ B, Hid (w.heap.size = B) := ⟨_, rfl⟩
  rw [hB.out] at W1 H1 ⊢
  go_wp2_with (fail)
  go_loopw [5] (fun i wr => ∃ k : Nat, k ≤ len ∧ i = .int .i64 k ∧ Hid (WR wr B (putAll V k).1 (putAll V k).2) ∧ Hid (Below B w wr)) (fun i _ => len - (intOf i).toNat)
  case atStart => exact ⟨0, by omega, rfl, W1, H1⟩
  case round =>
    obtain ⟨k, hk, rfl, hW, hb⟩ := hrel
    clear W1 H1
    by_cases hlt : k < len
    · have VRw := h.below (w' := wr) (by rw [hB.out]; exact hb.out)
      obtain ⟨b, off, rfl, hr, -⟩ := VRw.blk k hlt
      have hok := (h.ok k hlt).ok
      have hl1 := putAll_len hSh.out.2 k hk
      have hl2 := hSh.out.2 k hlt
      have hnext : Hid (putAll V (k + 1) = putStep (putAll V k) (V k)) := rfl
      generalize putAll V k = p at hl1 hnext hW
      generalize V k = v at hr hok hl2 hnext
      have hi := infoV v
      have t1 : k < cap := by omega
      have hrh := hidIt hr
      have hih := hidIt hi
      have hpc : Hid (∀ W, WR W B p.1 p.2 → Calls Try.prog 22 #[.pointer (some ⟨B, 0, none⟩), .agg v.cells.toArray] W fun e w' => e = .returned (.tuple #[]) ∧ Below B W w' ∧ WR w' B (putStep p v).1 (putStep p v).2) := fun W hWW => put_any B p v hok (by omega) W hWW
      clear hr hi VRw hl1 hl2 hok
      go_wp2_with (first | (refine wpList_load_mid rfl 37 _ rfl b (off + k * 6) rfl v.cells _ hrh.out Try.underlying37 rfl hih.out ?_))
      refine (hpc.out _ hW.out).mono ?_
      rintro e w2 ⟨rfl, hb2, hW2⟩
      have W2 : Hid (WR w2 B (putAll V (k + 1)).1 (putAll V (k + 1)).2) := by rw [hnext.out]; exact hW2
      have H2 : Hid (Below B w w2) := hb.out.trans hb2
      clear hb2 hW2 hW hb hpc hrh hih
      go_wp2_with (fail)
      go_roundw
      case rel => exact ⟨k + 1, by omega, by go_num, W2, H2⟩
      case measure => simp [intOf]; omega
    · obtain rfl : k = len := by omega
      have hl1 := putAll_len hSh.out.2 k (Nat.le_refl _)
      obtain ⟨⟨bs, er⟩, hp⟩ : ∃ p, Hid (putAll V k = p) := ⟨_, rfl⟩
      rw [hp.out] at hl1 hW
      have hWx := hW.out
      simp only at hWx hl1
      have hWh := hidIt hWx
      clear hW hWx
      by_cases he : er = 0
      · subst he
        have ev : Hid (encV (bs, 0) = .inr bs) := by show _ = _; unfold encV; rw [if_neg (by simp)]
        go_wp2_with (fail)
        refine (done_ok B bs (by omega) _ hWh.out).mono ?_
        rintro e w2 ⟨a2, c2, rfl, ho2, hb2⟩
        have O2 : Hid (w2.ownsRow B 5 1 (.slice a2 bs.length c2) bs.length (vals bs)) := owns_weak ho2 (by have h1 := hb.out.size; have h2 := hB.out; omega)
        have H2 : Hid (Below B w w2) := hb.out.trans (hb2.mono (by have h1 := hb.out.size; have h2 := hB.out; omega))
        clear ho2 hb2
        go_wp2_with (fail)
        go_ret2
        rw [hp.out, ev.out]
        exact ⟨by rw [hB.out]; exact H2.out, a2, c2, rfl, by rw [hB.out]; exact O2.out⟩
      · have ev : Hid (encV (bs, er) = .inl er) := by show _ = _; unfold encV; rw [if_pos he]
        go_wp2_with (fail)
        refine (done_err B er bs he _ hWh.out).mono ?_
        rintro e w2 ⟨rfl, m, rfl⟩
        have H2 := hidIt (below_drewN hb.out m)
        go_wp2_with (fail)
        go_ret2
        rw [hp.out, ev.out]
        exact ⟨by rw [hB.out]; exact H2.out, rfl⟩
end Go.Proofs.Ytfdbdhknamkipaa
