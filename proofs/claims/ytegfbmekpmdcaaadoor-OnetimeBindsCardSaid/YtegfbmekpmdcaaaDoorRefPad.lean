import Derived.Test.YtegfbmekpmdcaaaDoorRefBlock
import Derived.Test.YtegfbmekpmdcaaaDoorSumF
namespace Go.Proofs.YtegfbmekpmdcaaaDoor
open Go.RowKit
/-- append of one byte, laid in a new block, to a row of the call's own -/
theorem wpList_append_byte (w0 wr : World) {ops : Array Oper} {rest : List Oper} {o : Oper} {act : Act} {Q : Exit → Act → World → Prop} (hgd : o.guard = none) (s x : Operand)
    (ho : o.op = .call { callee := .builtin .append, args := #[s, x], argTypes := #[66, 66] })
    (v : Value) (n : Nat) (xs : List Nat) (hs : act.eval s = v) (hn : n = xs.length) (hown : wr.ownsRow w0.heap.size 5 1 v n (vals xs)) (z : Int) (y : Nat) (hzy : z = (y : Int))
    (hx : act.eval x = .slice (some ⟨wr.heap.size, 0, none⟩) 1 1) (hbig : n + 1 ≤ 140737488355328) (hb : Below w0.heap.size w0 wr)
    (h : ∀ a c w', w'.ownsRow w0.heap.size 5 1 (.slice a (n + 1) c) (n + 1) (vals (xs ++ [y])) → Below w0.heap.size w0 w' → wpList Tryd.prog ops Q rest (act.put o.dst (.slice a (n + 1) c)) w') :
    wpList Tryd.prog ops Q (o :: rest) act (wr.alloc (.cells #[.int .u8 z] 5)) := by
  subst hzy hn
  obtain ⟨i0, hi, hz0, hz1, hz2⟩ := info_parts info5
  refine wpList_append_own _ hgd s x 66 ho w0.heap.size 5 i0 (.int .u8 0) 1 1 Tryd.underlying66 hi hz0 hz1 hz2 rfl (by decide) v xs.length (vals xs) hs (hown.alloc _) ⟨wr.heap.size, 0, none⟩ 1 1 [.int .u8 (y : Int)] hx rfl ?c1 ?c2 ?c3 ?c4 ?c5 ?_
  case c1 =>
    intro j u hj
    match j, hj with
    | 0, hj => simp at hj; subst hj; simp [Addr.add]
  case c2 => intro u hu; simp at hu; subst hu; rfl
  case c3 => unfold maxLen; omega
  case c4 => omega
  case c5 => have := hb.size; simp; omega
  intro v' w3 hown3 hg3 _
  have hb3 := (hb.alloc hb.size _).grown hg3 (by have := hb.size; simp; omega) (fun q hq => (hown.lt q hq).1)
  have hown4 : w3.ownsRow w0.heap.size 5 1 v' (xs.length + 1) (vals (xs ++ [y])) := by
    rw [← vals_append]; exact hown3
  obtain ⟨a2, cap2, hv, _, _⟩ := owned_bytes hown4 (by simp)
  have hv' : v' = .slice a2 (xs.length + 1) cap2 := by rw [hv]; simp
  subst hv'
  exact h _ _ _ hown4 hb3
/-- the bytes, 128 and k zeros -/
def pz (xs : List Nat) (k : Nat) : List Nat := xs ++ 128 :: List.replicate k 0
theorem pz_len (xs : List Nat) (k : Nat) : (pz xs k).length = xs.length + 1 + k := by simp [pz]; omega
theorem pz_snoc (xs : List Nat) (k : Nat) : pz xs k ++ [0] = pz xs (k + 1) := by simp [pz, List.replicate_succ']
theorem pz_zero (xs : List Nat) : xs ++ [128] = pz xs 0 := by simp [pz]
theorem pz_pad (xs : List Nat) : pz xs (Sh.gap xs.length - 1) ++ (Sh.be8 (8 * xs.length)).take 8 = Sh.pad xs := by
  have e : (Sh.be8 (8 * xs.length)).take 8 = Sh.be8 (8 * xs.length) := List.take_of_length_le (by simp [Sh.be8])
  rw [e]; simp [pz, Sh.pad, Sh.tail]
theorem be8_snoc (x j : Nat) (h : j < 8) : (Sh.be8 x).take j ++ [x / 2 ^ (8 * (7 - j)) % 256] = (Sh.be8 x).take (j + 1) := by
  have hl : j < (Sh.be8 x).length := by simp [Sh.be8]; omega
  rw [List.take_succ_eq_append_getElem hl]
  simp [Sh.be8]
def slen : Value → Nat
  | .slice _ n _ => n
  | _ => 0
set_option maxRecDepth 100000 in
set_option maxHeartbeats 2000000 in
theorem refpad_any (a : Option Addr) (cap : Nat) (xs : List Nat) (hbig : xs.length ≤ 9000) (w : World) (h : Bytes w a xs) (hnil : a = none → cap = 0 ∧ xs = []) :
    Calls Tryd.prog 66 #[.slice a xs.length cap] w fun e w' => ∃ a' c', e = .returned (.slice a' (Sh.pad xs).length c') ∧ w'.ownsRow w.heap.size 5 1 (.slice a' (Sh.pad xs).length c') (Sh.pad xs).length (vals (Sh.pad xs)) ∧ Below w.heap.size w w' := by
  have hown : (w.alloc (.cells #[] 5)).ownsRow w.heap.size 5 1 (.slice (some ⟨w.heap.size, 0, none⟩) 0 0) 0 [] := World.ownsRow_made w #[] 0 (Nat.le_refl _) (by unfold maxLen; omega) rfl
  have hb1 : Below w.heap.size w (w.alloc (.cells #[] 5)) := (Below.refl _ _).alloc (Nat.le_refl _) _
  have h1 := h.below hb1
  go_enter Tryd.func66, Tryd.ntmps66
  go_wp2_with (at_builtin; refine wpList_append_bytes _ rfl _ _ rfl w.heap.size _ 0 [] rfl hown a _ cap xs rfl rfl h1 hnil (by omega) hb1.size ?_)
  intro v2 w2 hown2 hg2
  have hb2 : Below w.heap.size w w2 := hb1.grown hg2 hb1.size (fun q hq => (hown.lt q hq).1)
  have hown2' : w2.ownsRow w.heap.size 5 1 v2 xs.length (vals xs) := by simpa using hown2
  obtain ⟨a2, c2, rfl, _, _⟩ := owned_bytes hown2' rfl
  have hown2n := hidIt hown2'
  clear hown2 hown2' hg2 hown hb1 h1
  obtain ⟨L, hL⟩ : ∃ L, Hid (xs.length = L) := ⟨_, rfl⟩
  have hL300 : L ≤ 9000 := hL.out ▸ hbig
  rw [hL.out] at hown2n
  rw [hL.out]
  go_wp2_with (at_builtin; refine wpList_append_byte w w2 rfl _ _ rfl (.slice a2 L c2) L xs rfl hL.out.symm hown2n.out 128 128 rfl rfl (by omega) hb2 ?_)
  intro a3 c3 w3 hown3 hb3
  rw [pz_zero] at hown3
  have hown3n := hidIt hown3
  clear hown3
  have hown4 := hidIt (show w3.ownsRow w.heap.size 5 1 (.slice a3 (L + 1) c3) (L + 1) (vals (pz xs 0)) from hown3n.out)
  clear hown3n hb2 hown2n
  have hg := gap_bd L
  go_wp2
  go_loopw [3] (fun v wr => ∃ (k n : Nat) (a : Option Addr) (c : Nat), k + 1 ≤ Sh.gap L ∧ Hid (n = L + 1 + k) ∧ v = .slice a n c ∧ wr.ownsRow w.heap.size 5 1 v n (vals (pz xs k)) ∧ Below w.heap.size w wr) (fun v _ => L + 65 - slen v)
  case atStart => exact ⟨0, L + 1, a3, c3, hg.1, rfl, rfl, hown4.out, hb3⟩
  case round =>
    obtain ⟨k, n, a', c', hk, hn, rfl, hown, hb⟩ := hrel
    clear hown4 hb3
    obtain ⟨r, hr⟩ : ∃ r, Hid (r = n % 64) := ⟨_, rfl⟩
    have e1 : (n : Int).tmod 64 = (r : Int) := by rw [Int.tmod_eq_emod_of_nonneg (by omega), hr.out]; omega
    have hown5 := hidIt hown
    clear hown
    by_cases h56 : (r : Int) = 56
    · have hkg : Hid (k = Sh.gap L - 1) := by
        show _ = _
        have := hr.out; have := hn.out
        unfold Sh.gap at *
        omega
      have hu1 : IntKind.u64.wrap (L : Int) = (L : Int) := by rw [IntKind.wrap_u64]; omega
      obtain ⟨x, hx⟩ : ∃ x, Hid (8 * L = x) := ⟨_, rfl⟩
      have hu2 : (L : Int) * 8 = (x : Int) := by have := hx.out; omega
      have hu3 : IntKind.u64.wrap (x : Int) = (x : Int) := by rw [IntKind.wrap_u64]; have := hx.out; omega
      rw [hkg.out] at hown5 hn
      have hown8 := hidIt (show wr.ownsRow w.heap.size 5 1 (.slice a' n c') n (vals (pz xs (Sh.gap L - 1) ++ (Sh.be8 x).take 0)) by rw [List.take_zero, List.append_nil]; exact hown5.out)
      have hn8 := hidIt (show n = L + Sh.gap L + 0 by have := hn.out; omega)
      clear hown5 hn hkg hk
      go_wp2
      go_loopw [3, 5] (fun v i wr => ∃ (j n : Nat) (a : Option Addr) (c : Nat), j ≤ 8 ∧ Hid (n = L + Sh.gap L + j) ∧ i = .int .i64 (7 - (j : Int)) ∧ v = .slice a n c ∧ Hid (wr.ownsRow w.heap.size 5 1 (.slice a n c) n (vals (pz xs (Sh.gap L - 1) ++ (Sh.be8 x).take j))) ∧ Below w.heap.size w wr) (fun _ i _ => (intOf i + 1).toNat)
      case atStart => exact ⟨0, n, a', c', by omega, hn8, by simp, rfl, hown8, hb⟩
      case round =>
        obtain ⟨j, n, a', c', hj, hn, rfl, rfl, hown, hb⟩ := hrel
        clear hown8 hn8
        by_cases hlt : j < 8
        · obtain ⟨p, hp⟩ : ∃ p : Nat, Hid (p = 7 - j) := ⟨_, rfl⟩
          have hp7 : p ≤ 7 := by have := hp.out; omega
          have q1 : 7 - (j : Int) = (p : Int) := by have := hp.out; omega
          obtain ⟨s, hs⟩ : ∃ s : Nat, Hid (s = 8 * p) := ⟨_, rfl⟩
          have hs64 : s < 64 := by have := hs.out; omega
          have q2 : 8 * (p : Int) = (s : Int) := by have := hs.out; omega
          have q3 : IntKind.i64.wrap (s : Int) = (s : Int) := IntWalk.i64_in _ (by omega)
          have q4 : (0 : Int) ≤ (p : Int) := by omega
          have q5 : (0 : Int) ≤ (s : Int) := by omega
          obtain ⟨y, hy⟩ : ∃ y : Nat, Hid (y = x / 2 ^ s) := ⟨_, rfl⟩
          have q6 : (x : Int) / 2 ^ s = (y : Int) := by rw [hy.out, Int.natCast_ediv, Int.natCast_pow]; rfl
          obtain ⟨b, hbb⟩ : ∃ b : Nat, Hid (b = y % 256) := ⟨_, rfl⟩
          have q7 : IntKind.u8.wrap (y : Int) = (b : Int) := by rw [IntKind.wrap_u8, hbb.out]; omega
          have hsn : Hid (pz xs (Sh.gap L - 1) ++ ((Sh.be8 x).take j ++ [b]) = pz xs (Sh.gap L - 1) ++ (Sh.be8 x).take (j + 1)) := by
            show _ = _
            rw [← be8_snoc _ _ hlt, hbb.out, hy.out, hs.out, hp.out]
          have hnl : Hid (n = (pz xs (Sh.gap L - 1) ++ (Sh.be8 x).take j).length) := by
            show _ = _
            rw [List.length_append, pz_len, hL.out, List.length_take, hn.out]
            simp [Sh.be8]; omega
          have hn300 : n ≤ 9500 := by have := hn.out; omega
          go_wp2_with (at_builtin; refine wpList_append_byte w wr rfl _ _ rfl (.slice a' n c') n (pz xs (Sh.gap L - 1) ++ (Sh.be8 x).take j) rfl hnl.out hown.out _ b rfl rfl (by omega) hb ?_)
          intro a6 c6 w6 hown6 hb6
          try rw [List.append_assoc] at hown6
          rw [hsn.out] at hown6
          have hown7 := hidIt hown6
          clear hown6 hown hb hsn hnl
          go_wp2
          go_roundw
          case rel => exact ⟨j + 1, n + 1, a6, c6, by omega, by have := hn.out; show _ = _; omega, by have := hp.out; congr 1; omega, rfl, hown7, hb6⟩
          case measure => simp [intOf]; omega
        · have hp : Hid (j = 8) := by show _ = _; omega
          rw [hp.out, ← hx.out] at hown
          have hown9 := hown.out
          rw [← hL.out, pz_pad] at hown9
          have hnn : n = (Sh.pad xs).length := by rw [Sh.pad_len, hL.out, hn.out, hp.out]
          rw [hnn] at hown9
          have hown10 := hidIt hown9
          have h7 : ¬ (0 : Int) ≤ 7 - (j : Int) := by omega
          have hnn2 := hidIt hnn
          clear hown hown9 hnn
          go_wp2
          go_ret
          exact ⟨a', c', by rw [hnn2.out]; rfl, hown10.out, hb⟩
    · have hkg : k + 1 < Sh.gap L := by
        have := hr.out; have := hn.out
        unfold Sh.gap at *
        omega
      have hn300 : n ≤ 9500 := by have := hn.out; omega
      have hnl : Hid (n = (pz xs k).length) := by show _ = _; rw [pz_len, hL.out]; exact hn.out
      go_wp2_with (at_builtin; refine wpList_append_byte w wr rfl _ _ rfl (.slice a' n c') n (pz xs k) rfl hnl.out hown5.out 0 0 rfl rfl (by omega) hb ?_)
      intro a6 c6 w6 hown6 hb6
      rw [pz_snoc] at hown6
      have hown7 := hidIt hown6
      clear hown6 hown5 hb e1
      go_wp2
      go_roundw
      case rel => exact ⟨k + 1, n + 1, a6, c6, by omega, by have := hn.out; show _ = _; omega, rfl, hown7.out, hb6⟩
      case measure => have := hn.out; simp [slen]; omega
end Go.Proofs.YtegfbmekpmdcaaaDoor
