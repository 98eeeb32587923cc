import Derived.Test.YtpfekbbmbdegbaaDoorHmR
import Derived.Test.YtpfekbbmbdegbaaDoorHmL3
import Derived.Test.YtpfekbbmbdegbaaDoorConvApp
namespace Go.Proofs.YtpfekbbmbdegbaaDoor
open Go.RowKit
theorem reftag_at (s : ByteArray) (k : List Nat) (hk : Hid (ofStr s = k)) (hkb : k.length ≤ 1200) (a : Option Addr) (n cap : Nat) (xs : List Nat) (hn : n = xs.length) (hx : ∀ x ∈ xs, x < 256) (hbig : xs.length ≤ 1000) (w : World) (h : Bytes w a xs) (hnil : a = none → cap = 0 ∧ xs = []) :
    Calls Tryd.prog 24 #[.string s, .slice a n cap] w fun e w' => e = .returned (.string (str (Hm.tag k xs))) ∧ Below w.heap.size w w' := by
  subst hn; exact reftag_any s k hk hkb a cap xs hx hbig w h hnil
def szOf : Value → Nat
  | .string s => s.size
  | _ => 0
set_option maxRecDepth 100000 in
set_option maxHeartbeats 4000000 in
theorem refexpand_any (s t : ByteArray) (k info : List Nat) (hk : Hid (ofStr s = k)) (hi : Hid (ofStr t = info)) (hkb : k.length ≤ 1200) (hib : info.length ≤ 500) (m : Nat) (hm : m ≤ 300) (w : World) :
    Calls Tryd.prog 32 #[.string s, .string t, .int .i64 (m : Int)] w fun e w' => e = .returned (.string (str (Hm.expand k info m))) ∧ Below w.heap.size w w' := by
  have htz : Hid (t.size = info.length) := by show _ = _; rw [← hi.out, ofStr_len]
  have hil : Hid (∀ x ∈ info, x < 256) := by rw [← hi.out]; exact ofStr_lt t
  go_enter Tryd.func32, Tryd.ntmps32
  go_wp2
  go_loopw [9, 8, 7] (fun i tg ov wr => ∃ (j i1 : Nat) (st so : ByteArray), j ≤ 10 ∧ Hid (i1 = j + 1) ∧ i = .int .i64 (i1 : Int) ∧ tg = .string st ∧ ov = .string so ∧ Hid (ofStr st = Hm.T k info j) ∧ Hid (ofStr so = Hm.ex k info j) ∧ so.size < m + 32 ∧ Below w.heap.size w wr) (fun _ _ ov _ => m + 32 - szOf ov)
  case atStart => exact ⟨0, 1, { data := #[] }, { data := #[] }, by omega, rfl, rfl, rfl, rfl, rfl, rfl, by show 0 < m + 32; omega, Below.refl _ _⟩
  case round =>
    obtain ⟨j, i1, st, so, hj, hi1, rfl, rfl, rfl, hst, hso, hsom, hb⟩ := hrel
    have hsz : Hid (so.size = 32 * j) := by show _ = _; rw [← ofStr_len, hso.out, Hm.ex_len]
    by_cases hlt : so.size < m
    · have t3 : (so.size : Int) < (m : Int) := by omega
      have hTl := hidIt (Hm.T_len k info j)
      have hTt := hidIt (Hm.T_lt k info j)
      obtain ⟨D, hD⟩ : ∃ D, Hid (Hm.T k info j = D) := ⟨_, rfl⟩
      rw [hD.out] at hst hTl hTt
      have hDsz : Hid (st.size = D.length) := by show _ = _; rw [← hst.out, ofStr_len]
      obtain ⟨s3, hadd, hs3⟩ := addStr st t (by have := hDsz.out; have := htz.out; have := hTl.out; omega)
      have hadd2 := fun W => hadd.out W
      have hof3 : Hid (ofStr s3 = D ++ info) := by show _ = _; rw [hs3.out, hst.out, hi.out]
      have hs3z : Hid (s3.size = D.length + info.length) := by show _ = _; rw [← ofStr_len, hof3.out, List.length_append]
      obtain ⟨c3, w3, hcv, hrow, hb3, hlt3⟩ := conv_row s3 wr
      rw [hof3.out] at hrow
      obtain ⟨i2, hi2⟩ : ∃ i2, Hid (i2 = (j + 1) % 256) := ⟨_, rfl⟩
      have e5 : IntKind.u8.wrap (i1 : Int) = (i2 : Int) := by have := hi1.out; have := hi2.out; unfold IntKind.wrap; simp [IntKind.bits, IntKind.signed]; omega
      have hi256 : i2 < 256 := by have := hi2.out; omega
      have hbA : Below w3.heap.size w3 (w3.alloc (.cells #[.int .u8 (i2 : Int)] 5)) := (Below.refl _ _).alloc (Nat.le_refl _) _
      have hrow2 := hidIt (hrow.below hbA hlt3)
      have hq : (w3.alloc (.cells #[.int .u8 (i2 : Int)] 5)).cell? ⟨w3.heap.size, 0, none⟩ = some (.int .u8 (i2 : Int)) := by rw [cell_of_row _ _ _ _ _ _ (heap_alloc_new w3 _)]; rfl
      have hq2 := hidIt hq
      clear hq hs3 hadd hrow
      go_wp2_with (at_builtin; refine wpList_conv_append _ rfl _ _ rfl wr.heap.size s3.size c3 (D ++ info) rfl w3.heap.size i2 rfl hrow2.out hq2.out (by have := hs3z.out; have := hTl.out; omega) ?_)
      intro b6 c6 w6 hby6 hc6 hb6
      have Q6 : Below wr.heap.size wr w6 := (hb3.trans (hbA.mono (Nat.le_of_lt hlt3))).trans hb6
      obtain ⟨X, hX⟩ : ∃ X, Hid (D ++ info ++ [i2] = X) := ⟨_, rfl⟩
      have hXl : Hid (s3.size + 1 = X.length) := by show _ = _; rw [← hX.out, List.length_append, List.length_append, hs3z.out]; rfl
      have hX256 : Hid (∀ x ∈ X, x < 256) := by
        rw [← hX.out]; intro x hx
        rcases List.mem_append.1 hx with h1 | h1
        · rcases List.mem_append.1 h1 with h2 | h2
          · exact hTt.out x h2
          · exact hil.out x h2
        · simp at h1; omega
      rw [show D ++ (info ++ [i2]) = X from by rw [← hX.out, List.append_assoc]] at hby6
      have hby7 := hidIt hby6
      clear hby6 hb6 hrow2 hq2 hbA hb3 hadd2 hcv
      go_wp2_with (fail)
      refine (reftag_at s k hk hkb _ _ c6 X hXl.out hX256.out (by have := hXl.out; have := hs3z.out; have := hTl.out; omega) _ hby7.out (fun e => by cases e)).mono ?_
      rintro e w8 ⟨rfl, hb8⟩
      have Q8 := below_then Q6 hb8
      obtain ⟨E, hE⟩ : ∃ E, Hid (Hm.tag k X = E) := ⟨_, rfl⟩
      have hT1 : Hid (Hm.T k info (j + 1) = E) := by
        show Hm.tag _ _ = _
        rw [← hE.out, ← hX.out, hD.out, hi2.out]
      have hE256 : Hid (∀ x ∈ E, x < 256) := by rw [← hE.out]; exact Hm.tag_lt _ _
      have hE32 : Hid (E.length = 32) := by rw [← hE.out]; exact Hm.tag_len _ _
      obtain ⟨st2, hst2⟩ : ∃ s2, Hid (str E = s2) := ⟨_, rfl⟩
      have hof2 : Hid (ofStr st2 = E) := by show _ = _; rw [← hst2.out, ofStr_str _ hE256.out]
      have hsz2 : Hid (st2.size = 32) := by show _ = _; rw [← ofStr_len, hof2.out, hE32.out]
      rw [hE.out, hst2.out]
      obtain ⟨s9, hadd9, hs9⟩ := addStr so st2 (by have := hsz2.out; omega)
      have hadd9b := fun W => hadd9.out W
      have hof9 : Hid (ofStr s9 = Hm.ex k info (j + 1)) := by
        show _ = Hm.ex k info j ++ _
        rw [hs9.out, hso.out, hof2.out, hT1.out]
      have hs9z : Hid (s9.size = so.size + 32) := by show _ = _; rw [← ofStr_len, hs9.out, List.length_append, ofStr_len, ofStr_len, hsz2.out]
      have e6 : IntKind.i64.wrap ((i1 : Int) + 1) = ((i1 + 1 : Nat) : Int) := by have := hi1.out; rw [show (i1 : Int) + 1 = ((i1 + 1 : Nat) : Int) by omega]; exact IntWalk.i64_in _ (by omega)
      obtain ⟨i3, hi3⟩ : ∃ i3, Hid (i1 + 1 = i3) := ⟨_, rfl⟩
      rw [hi3.out] at e6
      have H8 := below_then hb Q8
      clear hadd9 hs9 hby7 Q6 hb8 Q8 t3
      go_wp2
      go_roundw
      case rel => exact ⟨j + 1, i3, st2, s9, by have := hsz.out; omega, by have := hi1.out; have := hi3.out; show _ = _; omega, by go_num, rfl, rfl, by show _ = _; rw [hof2.out, hT1.out], hof9, by have := hs9z.out; omega, H8⟩
      case measure => have := hs9z.out; simp [szOf]; omega
    · have t3 : ¬ (so.size : Int) < (m : Int) := by omega
      have hX : Hid ((Hm.ex k info j).take m = Hm.expand k info m) := Hm.expand_of _ _ _ _ (by have := hsz.out; omega)
      have hs1 := fun W => sliceSH so m (by omega) W
      rw [hso.out, hX.out] at hs1
      obtain ⟨sr, hsr⟩ : ∃ sr, Hid (str (Hm.expand k info m) = sr) := ⟨_, rfl⟩
      rw [hsr.out] at hs1
      clear hst hso
      go_wp2
      go_ret
      exact ⟨by rw [hsr.out]; rfl, hb⟩
theorem refexpand_32 (s t : ByteArray) (k info : List Nat) (hk : Hid (ofStr s = k)) (hi : Hid (ofStr t = info)) (hkb : k.length ≤ 1200) (hib : info.length ≤ 500) (w : World) :
    Calls Tryd.prog 32 #[.string s, .string t, .int .i64 32] w fun e w' => e = .returned (.string (str (Hm.expand k info 32))) ∧ Below w.heap.size w w' := refexpand_any s t k info hk hi hkb hib 32 (by decide) w
set_option maxRecDepth 100000 in
theorem refderive_any (s t : ByteArray) (m label : List Nat) (hk : Hid (ofStr s = m)) (hi : Hid (ofStr t = label)) (hm : m.length ≤ 500) (h64 : label.length ≤ 500) (w : World) :
    Calls Tryd.prog 34 #[.string s, .string t] w fun e w' => e = .returned (.string (str (Hm.derive m label))) ∧ Below w.heap.size w w' := by
  obtain ⟨c, w1, hcv, hby, hb1, hc1, hlt1⟩ := conv_to s w
  rw [hk.out] at hby
  have hsz : Hid (s.size = m.length) := by show _ = _; rw [← hk.out, ofStr_len]
  have hml : ∀ x ∈ m, x < 256 := by rw [← hk.out]; exact ofStr_lt s
  go_enter Tryd.func34, Tryd.ntmps34
  go_wp2_with (fail)
  refine (reftag_at { data := #[] } [] rfl (by decide) _ s.size c m hsz.out hml (by omega) _ hby (fun e => by cases e)).mono ?_
  rintro e w2 ⟨rfl, hb2⟩
  have H2 := below_then hb1 hb2
  obtain ⟨D, hD⟩ : ∃ D, Hid (Hm.tag [] m = D) := ⟨_, rfl⟩
  obtain ⟨s2, hs2⟩ : ∃ s2, Hid (str D = s2) := ⟨_, rfl⟩
  have hof : Hid (ofStr s2 = D) := by show _ = _; rw [← hs2.out, ofStr_str]; rw [← hD.out]; exact Hm.tag_lt _ _
  have hDl : Hid (D.length = 32) := by rw [← hD.out]; exact Hm.tag_len _ _
  rw [hD.out, hs2.out]
  clear hcv hby
  go_wp2_with (fail)
  refine (refexpand_32 s2 t D label hof hi (by rw [hDl.out]; decide) h64 _).mono ?_
  rintro e w3 ⟨rfl, hb3⟩
  go_wp2_with (fail)
  go_ret
  exact ⟨by unfold Hm.derive; rw [hD.out]; rfl, below_then H2 hb3⟩
set_option maxRecDepth 100000 in
set_option maxHeartbeats 2000000 in
theorem refchain_any (s t : ByteArray) (k label : List Nat) (hk : Hid (ofStr s = k)) (hi : Hid (ofStr t = label)) (hk32 : k.length = 32) (hib : label.length ≤ 500) (n : Nat) (hn : n ≤ 4096) (w : World) :
    Calls Tryd.prog 36 #[.string s, .string t, .int .i64 (n : Int)] w fun e w' => e = .returned (.string (str (Hm.chain k label n))) ∧ Below w.heap.size w w' := by
  have htz : Hid (t.size = label.length) := by show _ = _; rw [← hi.out, ofStr_len]
  have hil : Hid (∀ x ∈ label, x < 256) := by rw [← hi.out]; exact ofStr_lt t
  have hk33 := hidIt hk32
  clear hk32
  go_enter Tryd.func36, Tryd.ntmps36
  go_wp2
  go_loopw [7, 0] (fun i key wr => ∃ (j : Nat) (st : ByteArray), j ≤ n ∧ i = .int .i64 (j : Int) ∧ key = .string st ∧ Hid (ofStr st = Hm.chain k label j) ∧ Below w.heap.size w wr) (fun i _ _ => n - (intOf i).toNat)
  case atStart => exact ⟨0, s, by omega, rfl, rfl, hk, Below.refl _ _⟩
  case round =>
    obtain ⟨j, st, hj, rfl, rfl, hst, hb⟩ := hrel
    by_cases hlt : j < n
    · obtain ⟨D, hD⟩ : ∃ D, Hid (Hm.chain k label j = D) := ⟨_, rfl⟩
      rw [hD.out] at hst
      have hD32 : Hid (D.length = 32) := by rw [← hD.out]; exact Hm.chain_len _ _ hk33.out _
      obtain ⟨c, w1, hcv, hby, hb1, hc1, hlt1⟩ := conv_to t wr
      rw [hi.out] at hby
      go_wp2_with (fail)
      refine (reftag_at st D hst (by rw [hD32.out]; decide) _ t.size c label htz.out hil.out (by omega) _ hby (fun e => by cases e)).mono ?_
      rintro e w2 ⟨rfl, hb2⟩
      obtain ⟨E, hE⟩ : ∃ E, Hid (Hm.tag D label = E) := ⟨_, rfl⟩
      obtain ⟨s2, hs2⟩ : ∃ s2, Hid (str E = s2) := ⟨_, rfl⟩
      have hof : Hid (ofStr s2 = Hm.chain k label (j + 1)) := by
        show _ = Hm.tag _ _
        rw [← hs2.out, ofStr_str _ (by rw [← hE.out]; exact Hm.tag_lt _ _), ← hE.out, hD.out]
      rw [hE.out, hs2.out]
      have H2 := below_then hb (below_then hb1 hb2)
      clear hby hb hb1 hb2 hcv
      go_wp2
      go_roundw
      case rel => exact ⟨j + 1, s2, by omega, by go_num, rfl, hof, H2⟩
      case measure => simp [intOf]; omega
    · obtain rfl : j = n := by omega
      have hst2 : Hid (st = str (Hm.chain k label j)) := by show _ = _; rw [← hst.out, str_ofStr]
      clear hst
      go_wp2
      go_ret
      exact ⟨by rw [← hst2.out]; rfl, hb⟩
end Go.Proofs.YtpfekbbmbdegbaaDoor
