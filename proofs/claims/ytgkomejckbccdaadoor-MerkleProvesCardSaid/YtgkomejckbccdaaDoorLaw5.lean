import Derived.Test.YtgkomejckbccdaaDoorLawA
import Derived.Test.YtgkomejckbccdaaDoorRefB
namespace Go.Proofs.YtgkomejckbccdaaDoor
open Go.RowKit
/-- the leaves of contents -/
def lvs (cs : List ByteArray) : List ByteArray := cs.map fun s => Mk.leaf (ofStr s)
theorem lvs_len (cs : List ByteArray) : (lvs cs).length = cs.length := by simp [lvs]
theorem lvs_sum (cs : List ByteArray) : ∀ s ∈ lvs cs, s.size = 32 := by
  intro s hs
  simp only [lvs, List.mem_map] at hs
  obtain ⟨b, _, rfl⟩ := hs
  exact Mk.leaf_size _
theorem lvs_snoc (cs : List ByteArray) (k : Nat) (s : ByteArray) (hk : k < cs.length) (hs : cs.getD k ByteArray.empty = s) : lvs (cs.take (k + 1)) = lvs (cs.take k) ++ [Mk.leaf (ofStr s)] := by
  have e : cs[k] = s := by rw [← hs]; simp [List.getD, hk]
  rw [List.take_succ_eq_append_getElem hk, e]
  simp [lvs]
theorem getD_sr' {P : List ByteArray} (h : Sr P) (m : Nat) : (P.getD m ByteArray.empty).size ≤ 64 := by
  rw [List.getD_eq_getElem?_getD]
  rcases Nat.lt_or_ge m P.length with h2 | h2
  · rw [List.getElem?_eq_getElem h2]; exact h _ (List.getElem_mem _)
  · rw [List.getElem?_eq_none h2]; decide
def sl27 : Value → Nat
  | .int _ z => z.toNat
  | _ => 0
theorem half_small {n b : Nat} (h : n ≤ 20) (hb : 0 < (n - 1) / 2 ^ b) : b ≤ 20 := by
  have h1 : 2 ^ b ≤ n - 1 := by
    rcases Nat.lt_or_ge (n - 1) (2 ^ b) with h2 | h2
    · rw [Nat.div_eq_of_lt h2] at hb; omega
    · exact h2
  have h2 : b < 2 ^ b := Nat.lt_two_pow_self
  omega
theorem half_end {n b : Nat} (h1 : 1 ≤ n) (hb : (n - 1) / 2 ^ b = 0) : n ≤ 2 ^ b := by
  rcases Nat.lt_or_ge (n - 1) (2 ^ b) with h2 | h2
  · omega
  · have := Nat.div_pos h2 (Nat.two_pow_pos b); omega
theorem half_next (n b : Nat) : (n - 1) / 2 ^ (b + 1) = (n - 1) / 2 ^ b / 2 := by rw [Nat.pow_succ, Nat.div_div_eq_div_mul]
set_option maxRecDepth 100000 in
set_option maxHeartbeats 2000000 in
theorem mproves_walk (a0 : Option Addr) (len0 cap0 : Nat) (cs : List ByteArray) (i : Int) (w : World) (hL : Laid w) (h0 : RdS w a0 len0 cap0 cs) (hm : cap0 ≤ maxLen) (_hi : (Lit.int .i64 i).wf = true) :
    Calls Tryd.prog 7 #[.slice a0 len0 cap0, .int .i64 i] w fun e w' => e = .returned (.bool true) ∧ Below w.heap.size w w' := by
  have hR := hidIt h0
  clear h0 _hi
  obtain ⟨b, hb⟩ : ∃ b, Hid (fewB cs = b) := ⟨_, rfl⟩
  go_enter Tryd.func7, Tryd.ntmps7
  go_wp2_with (fail)
  refine (awake9_any _ hL).mono ?_
  rintro e w1 ⟨rfl, hb1⟩
  have B1 := hidIt hb1
  have L1 := hL.below hb1 hL.two
  clear hb1
  go_wp2_with (fail)
  refine (few_any a0 len0 cap0 cs b hb hm _ (hR.out.below B1.out)).mono ?_
  rintro e w2 ⟨rfl, rfl⟩
  cases b with
  | false =>
    go_wp2_with (fail)
    refine (awake9_any _ L1).mono ?_
    rintro e w2 ⟨rfl, hb2⟩
    go_wp2_with (fail)
    go_ret
    exact ⟨rfl, below_then B1.out hb2⟩
  | true =>
  have hS := hidIt (few_sr hb.out).1
  have hl : Hid (len0 ≤ 20) := by show _ ≤ _; rw [hR.out.len]; exact (few_sr hb.out).2
  by_cases hbad : i < 0 ∨ (len0 : Int) ≤ i
  · by_cases hi0 : i < 0
    · clear hbad
      go_wp2_with (fail)
      refine (awake9_any _ L1).mono ?_
      rintro e w2 ⟨rfl, hb2⟩
      go_wp2_with (fail)
      go_ret
      exact ⟨rfl, below_then B1.out hb2⟩
    · have hil : (len0 : Int) ≤ i := by omega
      clear hbad
      go_wp2_with (fail)
      refine (awake9_any _ L1).mono ?_
      rintro e w2 ⟨rfl, hb2⟩
      go_wp2_with (fail)
      go_ret
      exact ⟨rfl, below_then B1.out hb2⟩
  obtain ⟨i', rfl⟩ := Int.eq_ofNat_of_zero_le (show 0 ≤ i by omega)
  have hil : Hid (i' < len0) := by show _ < _; omega
  have g1 : decide ((i' : Int) < 0) = false := by rw [decide_eq_false_iff_not]; omega
  have g2 : decide (len0 ≤ i') = false := by rw [decide_eq_false_iff_not]; omega
  have hlen := hidIt hR.out.len
  clear hbad
  have hbE : Hid (Below w.heap.size w (w1.alloc (.cells #[] 9))) := below_then B1.out ((Below.refl _ _).alloc (Nat.le_refl _) _)
  have ho0 : Hid ((w1.alloc (.cells #[] 9)).ownsRow w.heap.size 9 1 (.slice (some ⟨w1.heap.size, 0, none⟩) 0 0) 0 (svals (lvs (cs.take 0)))) := own_mono (empty_own w1) B1.out.size
  go_wp2_with (fail)
  have l20 : len0 ≤ 20 := hl.out
  go_loopw [6, 5] (fun k v wr => ∃ (j : Nat) (A : Option Addr) (C : Nat), j ≤ len0 ∧ k = .int .i64 (j : Int) ∧ v = .slice A j C ∧ Hid (wr.ownsRow w.heap.size 9 1 (.slice A j C) j (svals (lvs (cs.take j)))) ∧ Hid (Below w.heap.size w wr)) (fun k _ _ => len0 - sl27 k)
  case atStart => exact ⟨0, some ⟨w1.heap.size, 0, none⟩, 0, by omega, rfl, rfl, ho0.out, hbE.out⟩
  case round =>
    obtain ⟨j, A, C, hj, rfl, rfl, ho, hB⟩ := hrel
    clear ho0 hbE
    by_cases hlt : j < len0
    · have e1 : (j : Int) < (len0 : Int) := by omega
      obtain ⟨s, hs⟩ : ∃ s, Hid (cs.getD j ByteArray.empty = s) := ⟨_, rfl⟩
      obtain ⟨bl, o, rfl, hc⟩ := (hR.out.below hB.out).cell hlt hs.out
      have hs64 : Hid (s.size ≤ 64) := by show _ ≤ _; rw [← hs.out]; exact getD_sr' hS.out j
      obtain ⟨c, W', hcv, hby, hbw, hle, hlw⟩ := conv_to s wr
      have BW := hidIt (hB.out.trans (hbw.mono hB.out.size))
      have hby2 := hidIt hby
      have hle2 := hidIt hle
      have hsn := hidIt (lvs_snoc cs j s (by have := hlen.out; omega) hs.out)
      have ho2 := hidIt (own_belowS ho.out hbw)
      obtain ⟨x, hx⟩ : ∃ x, Hid (Mk.leaf (ofStr s) = x) := ⟨_, rfl⟩
      clear hby hbw hle hlw ho hB
      go_wp2_with (fail)
      refine (leaf_any _ s.size c (ofStr s) (ofStr_len s).symm (ofStr_lt s) (by rw [ofStr_len]; have := hs64.out; omega) (by rw [ofStr_len]; exact hle2.out) _ (hL.below BW.out hL.two) hby2.out).mono ?_
      rintro e w3 ⟨rfl, hb3⟩
      rw [hx.out]
      have B3 := hidIt (BW.out.trans (hb3.mono BW.out.size))
      have ho3 := hidIt (own_belowS ho2.out hb3)
      clear hb3 ho2 BW hby2 hle2
      go_wp2_with (at_builtin; refine wpList_snoc_str _ rfl _ _ rfl w.heap.size _ j (lvs (cs.take j)) rfl (own_belowS ho3.out ((Below.refl _ _).alloc (Nat.le_refl _) _)) w3.heap.size x rfl (str_new _ _) (by have := hl.out; omega) (Nat.le_trans B3.out.size (by simp)) ?_)
      intro v4 w4 hown4 hb4
      obtain ⟨gg, cc, rfl, _, _⟩ := hown4.form (by omega)
      have B4 : Hid (Below w.heap.size w w4) := (B3.out.trans (((Below.refl _ _).alloc (Nat.le_refl _) _).mono B3.out.size)).trans hb4
      have ho4 : Hid (w4.ownsRow w.heap.size 9 1 (.slice (some ⟨gg, 0, none⟩) (j + 1) cc) (j + 1) (svals (lvs (cs.take (j + 1))))) := by show World.ownsRow _ _ _ _ _ _ _; rw [hsn.out, hx.out]; exact hown4
      clear hown4 hb4 B3 ho3 hsn
      go_wp2_with (fail)
      go_roundw
      case rel => exact ⟨j + 1, some ⟨gg, 0, none⟩, cc, by omega, by go_num, rfl, ho4.out, B4.out⟩
      case measure => simp [sl27]; omega
    · obtain rfl : j = len0 := by omega
      have e1 : ¬ (j : Int) < (j : Int) := by omega
      have ho2 : Hid (wr.ownsRow w.heap.size 9 1 (.slice A j C) j (svals (lvs cs))) := by
        have e : cs.take j = cs := List.take_of_length_le (by have := hlen.out; omega)
        have := ho.out
        rw [e] at this; exact this
      obtain ⟨ls, hls⟩ : ∃ ls, Hid (lvs cs = ls) := ⟨_, rfl⟩
      have hsum : Hid (∀ s ∈ ls, s.size = 32) := by show ∀ s ∈ ls, _; rw [← hls.out]; exact lvs_sum cs
      have hll : Hid (j = ls.length) := by show _ = _; rw [← hls.out, lvs_len]; exact hlen.out
      have ho3 := ho2.out
      rw [hls.out] at ho3
      obtain ⟨av, cv, hav, hcv, hst, _⟩ := owned_strs ho3 hll.out
      rw [← hll.out] at hav hcv
      obtain ⟨rfl, _, rfl⟩ := Value.slice.inj hav
      have hP : Hid (RdS wr A j C ls) := ⟨hll.out, hcv, hst⟩
      have hsm : Hid (Sm ls) := fun s hs => by rw [hsum.out s hs]; decide
      obtain ⟨P, hPP⟩ : ∃ P, Hid (Mk.pathL ls i' = P) := ⟨_, rfl⟩
      obtain ⟨x, hx⟩ : ∃ x, Hid (ls.getD i' ByteArray.empty = x) := ⟨_, rfl⟩
      obtain ⟨rt, hrt⟩ : ∃ x, Hid (Mk.root ls = x) := ⟨_, rfl⟩
      have hx32 : Hid (x.size = 32) := by show _ = _; rw [← hx.out]; exact getD_sum hsum.out (by have := hil.out; have := hll.out; omega)
      have hver : Hid (ver x (i' : Int) (j : Int) P rt = true) := by
        have := ver_path hsum.out (i := i') (by have := hil.out; have := hll.out; omega)
        rw [hx.out, hPP.out, hrt.out, ← hll.out] at this
        exact this
      have hPs : Hid (Sm P) := fun s hs => by
        have h9 := pathL_sums hsum.out ls.length 0 ls.length i' (Nat.le_refl _) s (by rw [show Mk.path (Mk.part ls) 0 ls.length i' = P from hPP.out]; exact hs)
        rw [h9]; decide
      clear ho ho2 ho3 hcv hst hR hb hS hlen hls
      go_wp2_with (fail)
      refine (path_good A j C i' ls P hPP hil.out hsm.out (by omega) _ (hL.below hB.out hL.two) hP).mono ?_
      rintro e w3 ⟨⟨v, rfl, hown⟩, hb3⟩
      have B3 := hidIt (hB.out.trans (hb3.mono hB.out.size))
      obtain ⟨ap, cp, rfl, hcp, hst, _⟩ := owned_strs hown rfl
      have Q3 : Hid (RdS w3 ap P.length cp P) := ⟨rfl, hcp, hst⟩
      have P3 := hidIt (hP.out.below hb3)
      clear hb3 hown hcp hst hP hB
      obtain ⟨pl, hpl⟩ : ∃ l, Hid (P.length = l) := ⟨_, rfl⟩
      rw [hpl.out] at Q3 ⊢
      have hlast : Hid (∀ b, (j - 1) / 2 ^ b = 0 → pl ≤ b) := fun b hb => by
        have h9 := Mk.path_len b (Mk.part ls) 0 ls.length i' (by rw [← hll.out]; exact half_end (by have := hil.out; omega) hb)
        rw [show Mk.path (Mk.part ls) 0 ls.length i' = P from hPP.out, hpl.out] at h9
        exact h9
      have h1j : (j : Int) - 1 = ((j - 1 : Nat) : Int) := by have := hil.out; omega
      obtain ⟨j1, hj1⟩ : ∃ z, Hid (j - 1 = z) := ⟨_, rfl⟩
      rw [hj1.out] at h1j hlast
      go_wp2_with (fail)
      go_loop [10, 9] (fun n b => ∃ (x b' : Nat), n = .int .i64 (x : Int) ∧ b = .int .i64 (b' : Int) ∧ x ≤ 20 ∧ Hid (x = j1 / 2 ^ b') ∧ b' ≤ 21) (fun n _ => (intOf n).toNat)
      case atStart => exact ⟨j1, 0, rfl, rfl, by have := hj1.out; omega, by show _ = _; simp, by omega⟩
      case round =>
        obtain ⟨y, b', rfl, rfl, hy, hyb, hb21⟩ := hrel
        by_cases hy0 : 0 < y
        · have e2 : (0 : Int) < (y : Int) := by omega
          have hb20 : b' ≤ 20 := half_small (n := j) l20 (by rw [hj1.out, ← hyb.out]; exact hy0)
          have hn2 : Hid (y / 2 = j1 / 2 ^ (b' + 1)) := by show _ = _; rw [Nat.pow_succ, ← Nat.div_div_eq_div_mul, ← hyb.out]
          have hq : (y : Int).tdiv 2 = ((y / 2 : Nat) : Int) := by simp
          clear hyb
          go_wp2
          go_round
          case rel => exact ⟨y / 2, b' + 1, by go_num, by go_num, by omega, hn2.out, by omega⟩
          case measure => simp [intOf]; omega
        · obtain rfl : y = 0 := by omega
          have hpb : pl ≤ b' := hlast.out b' hyb.out.symm
          have hil2 : i' < j := hil.out
          have c1 : Hid (∀ W, Below w3.heap.size w3 W → Calls Tryd.prog 22 #[.slice A j C] W fun e w' => e = .returned (.string rt) ∧ Below W.heap.size W w') := fun W hW =>
            root_rec j ls rt A j C W hrt (Nat.le_refl _) (by omega) hsm.out (hL.below (B3.out.trans (hW.mono B3.out.size)) hL.two) (P3.out.below hW)
          have c2 : Hid (∀ W, Below w3.heap.size w3 W → Calls Tryd.prog 27 #[.string x, .int .i64 (i' : Int), .int .i64 (j : Int), .slice ap pl cp, .string rt] W fun e w' => e = .returned (.bool true) ∧ Below W.heap.size W w') := fun W hW =>
            verify_any ap pl cp P x rt (i' : Int) (j : Int) true hver hPs.out (by rw [hx32.out]; decide) (by omega) (by omega) (by omega) W (hL.below (B3.out.trans (hW.mono B3.out.size)) hL.two) (Q3.out.below hW)
          obtain ⟨bx, ox, rfl, hcx⟩ := P3.out.cell hil.out hx.out
          have hcx2 := hidIt hcx
          have e3 : ¬ (0 : Int) < ((0 : Nat) : Int) := by omega
          have e4 : (pl : Int) ≤ (b' : Int) := by omega
          clear hver hPs P3 Q3 hPP hlast hyb hsum hsm hx32 hx hrt hcx
          have hcx := hcx2.out
          go_wp2_with (fail)
          go_region_held3 (fun W => Below w3.heap.size w3 W ∧ W.cell? ⟨bx, ox + i', none⟩ = some (.string x))
            (first
              | (exact ⟨Below.refl _ _, by assumption⟩)
              | (exact ⟨(Below.refl _ _).drew, by assumption⟩)
              | (go_split_ands; exact ⟨by assumption, by assumption⟩)
              | (go_split_ands; exact ⟨Below.drew (by assumption), by assumption⟩)
              | (go_split_ands; exact ⟨below_then (by assumption) (by assumption), ((below_then (by assumption) (by assumption) : Below w3.heap.size w3 _).cell (p := ⟨bx, ox + i', none⟩) (bytes_lt hcx2.out)).trans hcx2.out⟩))
            (first
              | (go_at_call 22; (with_reducible refine Calls.mono (c1.out _ ?_) ?_); (focus (go_split_ands; assumption)); rintro e w7 ⟨rfl, hb7⟩)
              | (go_at_call 27; (with_reducible refine Calls.mono (c2.out _ ?_) ?_); (focus (go_split_ands; assumption)); rintro e w8 ⟨rfl, hb8⟩))
          have hB8 : Hid (Below w3.heap.size w3 w8) := by show Below _ _ _; go_split_ands; assumption
          go_wp2
          go_ret
          exact ⟨rfl, B3.out.trans (hB8.out.mono B3.out.size)⟩
end Go.Proofs.YtgkomejckbccdaaDoor
