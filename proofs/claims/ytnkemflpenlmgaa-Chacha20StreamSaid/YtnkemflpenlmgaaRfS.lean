import Derived.Test.YtnkemflpenlmgaaRfB
import Derived.Test.YtnkemflpenlmgaaStmG
namespace Go.Proofs.Ytnkemflpenlmgaa
open Go.RowKit
theorem stream_part {ks ns : List Nat} {o f b sk m : Nat} (h : 64 * b + sk = o + f) (hb : b < 4294967296) (hm : sk + m ≤ 64) : Cc.stream ks ns (o + f) m = ((Cc.block (Cc.init ks ns b)).drop sk).take m := by
  apply List.ext_getElem
  · rw [Cc.stream_len, List.length_take, List.length_drop, Cc.block_len]; omega
  · intro i h1 h2
    rw [Cc.stream_len] at h1
    rw [List.getElem_take, List.getElem_drop]
    simp only [Cc.stream, List.getElem_map, List.getElem_range]
    unfold Cc.ksb
    rw [show (o + f + i) / 64 = b by omega, Nat.mod_eq_of_lt hb, show (o + f + i) % 64 = sk + i by omega, List.getD_eq_getElem?_getD, List.getElem?_eq_getElem (by rw [Cc.block_len]; omega)]
    rfl
set_option maxRecDepth 100000 in
theorem refstream_err (key nonce : ByteArray) (o n : Int) (h : ¬ (key.size = 32 ∧ nonce.size = 12) ∨ o < 0 ∨ n < 0) (w : World) :
    Calls Try.prog 18 #[.string key, .string nonce, .int .i64 o, .int .i64 n] w fun e w' => e = .returned (.tuple #[.slice none 0 0, .int .i64 1]) ∧ w = w' := by
  by_cases hk : key.size = 32
  · have hk1 : ((key.size : Int) != 32) = false := by simp; omega
    have hk2 : (key.size : Int) = 32 := by omega
    by_cases hn : nonce.size = 12
    · have hn1 : ((nonce.size : Int) != 12) = false := by simp; omega
      have hn2 : (nonce.size : Int) = 12 := by omega
      by_cases ho : o < 0
      · have hod : decide (o < 0) = true := by simp [ho]
        clear h hk hn
        go_enter Try.func18, Try.ntmps18
        go_wp2_with (fail)
        go_ret2
        exact ⟨rfl, rfl⟩
      · have hod : decide (o < 0) = false := by simp only [decide_eq_false_iff_not]; exact ho
        have hnn : n < 0 := by rcases h with h | h | h; exact absurd ⟨hk, hn⟩ h; exact absurd h ho; exact h
        have hnd : decide (n < 0) = true := by simp [hnn]
        clear h hk hn
        go_enter Try.func18, Try.ntmps18
        go_wp2_with (fail)
        go_ret2
        exact ⟨rfl, rfl⟩
    · have hn1 : ((nonce.size : Int) != 12) = true := by simp; omega
      have hn2 : ¬ (nonce.size : Int) = 12 := by omega
      clear h hk hn
      go_enter Try.func18, Try.ntmps18
      go_wp2_with (fail)
      go_ret2
      exact ⟨rfl, rfl⟩
  · have hk1 : ((key.size : Int) != 32) = true := by simp; omega
    have hk2 : ¬ (key.size : Int) = 32 := by omega
    clear h hk
    go_enter Try.func18, Try.ntmps18
    go_wp2_with (fail)
    go_ret2
    exact ⟨rfl, rfl⟩
set_option maxRecDepth 100000 in
theorem refstream_large (key nonce : ByteArray) (o n : Int) (hk : key.size = 32) (hn : nonce.size = 12) (ho : 0 ≤ o) (hn0 : 0 ≤ n) (hbn : n < 9223372036854775808) (h : 1048576 < n ∨ 274877906944 - n < o) (w : World) :
    Calls Try.prog 18 #[.string key, .string nonce, .int .i64 o, .int .i64 n] w fun e w' => e = .returned (.tuple #[.slice none 0 0, .int .i64 2]) ∧ w = w' := by
  have hk1 : ((key.size : Int) != 32) = false := by simp; omega
  have hk2 : (key.size : Int) = 32 := by omega
  have hn1 : ((nonce.size : Int) != 12) = false := by simp; omega
  have hn2 : (nonce.size : Int) = 12 := by omega
  have o0 : decide (o < 0) = false := by simp; omega
  have n0 : decide (n < 0) = false := by simp; omega
  clear hk hn
  by_cases h1 : 1048576 < n
  · clear h
    go_enter Try.func18, Try.ntmps18
    go_wp2_with (fail)
    go_ret2
    exact ⟨rfl, rfl⟩
  · have h2 : 274877906944 - n < o := by omega
    have h3 : decide (1048576 < n) = false := by simp; omega
    have h4 : IntKind.i64.wrap (274877906944 - n) = 274877906944 - n := IntWalk.i64_in _ (by omega)
    clear h
    go_enter Try.func18, Try.ntmps18
    go_wp2_with (fail)
    go_ret2
    exact ⟨rfl, rfl⟩
set_option maxRecDepth 100000 in
set_option maxHeartbeats 1000000 in
theorem refstream_ok (key nonce : ByteArray) (o n : Nat) (hk : key.size = 32) (hn : nonce.size = 12) (hnb : n ≤ 1048576) (hob : o + n ≤ 274877906944) (w : World) :
    Calls Try.prog 18 #[.string key, .string nonce, .int .i64 o, .int .i64 n] w fun e w' => SlB e w' (Cc.stream (ofStr key) (ofStr nonce) o n) ∧ Below w.heap.size w w' := by
  obtain ⟨ks, hks⟩ : ∃ ks, Hid (ofStr key = ks) := ⟨_, rfl⟩
  obtain ⟨ns, hns⟩ : ∃ ns, Hid (ofStr nonce = ns) := ⟨_, rfl⟩
  obtain ⟨K, hK⟩ : ∃ K : Nat → List Nat, Hid (∀ c, K c = Cc.block (Cc.init ks ns c)) := ⟨_, fun _ => rfl⟩
  have hblk : Hid (∀ c : Nat, c < 4294967296 → ∀ W, Calls Try.prog 16 #[.string key, .string nonce, .int .u32 c] W fun e w' => SlB e w' (K c) ∧ Below W.heap.size W w') := by
    intro c hc W
    have := refblock_ok key nonce c hk hn hc W
    rw [hks.out, hns.out] at this
    rw [hK.out]
    exact this
  have hKl : Hid (∀ c, (K c).length = 64) := fun c => by rw [hK.out, Cc.block_len]
  rw [hks.out, hns.out]
  obtain ⟨G, hG⟩ : ∃ G : Nat → List Nat, Hid (∀ f, G f = Cc.stream ks ns o f) := ⟨_, fun _ => rfl⟩
  have hGl : Hid (∀ f, (G f).length = f) := fun f => by rw [hG.out, Cc.stream_len]
  rw [← hG.out]
  have hk1 : ((key.size : Int) != 32) = false := by simp; omega
  have hk2 : (key.size : Int) = 32 := by omega
  have hn1 : ((nonce.size : Int) != 12) = false := by simp; omega
  have hn2 : (nonce.size : Int) = 12 := by omega
  have o0 : decide ((o : Int) < 0) = false := by simp
  have n0 : decide ((n : Int) < 0) = false := by simp
  have n1 : decide (1048576 < (n : Int)) = false := by simp; omega
  obtain ⟨mx, hmx⟩ : ∃ mx : Nat, Hid (mx + n = 274877906944) := ⟨274877906944 - n, by show _ = _; omega⟩
  have h4 : (274877906944 : Int) - (n : Int) = (mx : Int) := by have := hmx.out; omega
  have h5 : IntKind.i64.wrap (mx : Int) = (mx : Int) := IntWalk.i64_in _ (by have := hmx.out; omega)
  have h6 : ¬ mx < o := by have := hmx.out; omega
  have h7 : decide (mx < o) = false := by simp; omega
  obtain ⟨en, hen⟩ : ∃ en, Hid (o + n = en) := ⟨_, rfl⟩
  have e1 : (o : Int) + (n : Int) = (en : Int) := by have := hen.out; omega
  have e2 : IntKind.i64.wrap (en : Int) = (en : Int) := IntWalk.i64_in _ (by have := hen.out; omega)
  have hob0 := hidIt (emptyOwnAt w w.heap.size (Nat.le_refl _))
  have hb0 := hidIt ((Below.refl _ w).alloc (Nat.le_refl _) (.cells #[] 5))
  have hG0 : Hid (vals (G 0) = vals []) := by show _ = _; rw [hG.out]; rfl
  have hnb2 := hidIt hnb
  have hob2 := hidIt hob
  clear hk hn hks hns hob hnb
  go_enter Try.func18, Try.ntmps18
  go_wp2_with (fail)
  generalize w.alloc (.cells #[] 5) = wA at *
  clear o0 n0 n1 h4 h5 h6 h7 hmx hk1 hk2 hn1 hn2
  go_loopw [11, 10, 12, 13, 14] (fun p v _ _ _ wr => ∃ f p' : Nat, f ≤ n ∧ p' = o + f ∧ p = .int .i64 p' ∧ Hid (wr.ownsRow w.heap.size 5 1 v f (vals (G f))) ∧ Hid (Below w.heap.size w wr)) (fun p _ _ _ _ _ => en - (intOf p).toNat)
  case atStart => exact ⟨0, o, by omega, rfl, rfl, by rw [hG0.out]; exact hob0, hb0⟩
  case round =>
    clear hob0 hb0
    obtain ⟨f, p, hfn, hp, rfl, hown, hb⟩ := hrel
    have hpp := hidIt hp
    by_cases hlt : f < n
    · obtain ⟨b, sk, hbs, hs64⟩ : ∃ b sk, p = 64 * b + sk ∧ sk < 64 := ⟨p / 64, p % 64, by omega, by omega⟩
      have hb32 : b < 4294967296 := by have := hob2.out; omega
      have t1 : (p : Int) < (en : Int) := by have := hen.out; omega
      have q1 : (p : Int) / 64 = (b : Int) := by omega
      have q2 : Int.tmod (p : Int) 64 = (sk : Int) := by rw [Int.tmod_eq_emod_of_nonneg (by omega)]; omega
      have v1 : IntKind.i64.wrap (b : Int) = (b : Int) := IntWalk.i64_in _ (by omega)
      have v2 : IntKind.u32.wrap (b : Int) = (b : Int) := by rw [IntKind.wrap_u32]; omega
      have hbs2 := hidIt hbs
      obtain ⟨rm, hrm⟩ : ∃ rm, Hid (rm + f = n) := ⟨n - f, by show _ = _; omega⟩
      have e3 : (en : Int) - (p : Int) = (rm : Int) := by have := hrm.out; have := hen.out; omega
      have e4 : IntKind.i64.wrap (rm : Int) = (rm : Int) := IntWalk.i64_in _ (by have := hrm.out; have := hnb2.out; omega)
      have t2 : (0 : Int) ≤ (p : Int) := by omega
      clear hp hbs
      go_wp2_with (fail)
      refine (hblk.out b hb32 _).mono ?_
      rintro e w2 ⟨⟨a', c', rfl, hby, hcap⟩, hb2⟩
      rw [hKl.out] at hcap
      rw [hKl.out]
      obtain ⟨bb, ob, rfl, -⟩ := hby 0 (by rw [hKl.out]; omega)
      have hown2 : Hid (w2.ownsRow w.heap.size 5 1 u10 f (vals (G f))) := by
        have h := hown.out
        refine ⟨h.1, ?_⟩
        rcases h.2 with h | ⟨g, cap, cur, h1, h2, h3, h4⟩
        · exact .inl h
        · exact .inr ⟨g, cap, cur, h1, h2, (hb2.block g (Blk.lt (t := 5) (cs := cur) h3)).trans h3, h4⟩
      have hbA := hidIt (below_then hb.out hb2)
      have hsub := hidIt (sub_bytes hby sk (64 - sk))
      have s1 := fun W => sliceTail bb ob 64 c' sk hs64 (by omega) W
      clear hown hb hb2 hby
      by_cases hcut : rm < 64 - sk
      · have t3 : (rm : Int) < ((64 - sk : Nat) : Int) := by omega
        have s2 := fun W => sliceHead bb (ob + sk) (64 - sk) (c' - sk) rm (by omega) W
        obtain ⟨pn, hpn⟩ : ∃ pn, Hid (p + rm = pn) := ⟨_, rfl⟩
        have e5 : (p : Int) + (rm : Int) = (pn : Int) := by have := hpn.out; omega
        have e6 : IntKind.i64.wrap (pn : Int) = (pn : Int) := IntWalk.i64_in _ (by have := hpn.out; have := hpp.out; have := hrm.out; have := hob2.out; omega)
        obtain ⟨ys, hys⟩ : ∃ ys, Hid (((K b).drop sk).take rm = ys) := ⟨_, rfl⟩
        have hyl : Hid (rm = ys.length) := by show _ = _; rw [← hys.out, List.length_take, List.length_drop, hKl.out]; omega
        have hyb : Hid (Bytes w2 (some ⟨bb, ob + sk, none⟩) ys) := by
          rw [← hys.out]
          intro i hi
          have hi2 : i < rm := by rw [hys.out, ← hyl.out] at hi; exact hi
          obtain ⟨x1, x2, x3, x4⟩ := hsub.out i (by rw [List.length_take, List.length_drop, hKl.out]; omega)
          refine ⟨x1, x2, by rw [← x3]; simp [Addr.add], ?_⟩
          rw [x4, List.getD_eq_getElem?_getD, List.getD_eq_getElem?_getD, List.getElem?_take, List.getElem?_take, if_pos hi2, if_pos (by omega)]
        have hnew : Hid (G n = G f ++ ys) := by
          show _ = _
          rw [← hys.out, hK.out, hG.out, hG.out, ← stream_part (b := b) (sk := sk) (o := o) (f := f) (m := rm) (by have := hbs2.out; have := hpp.out; omega) hb32 (by omega), Cc.stream_append, show f + rm = n by have := hrm.out; omega]
        clear hsub
        go_wp2_with (refine wpList_append_bytes w2 rfl _ _ rfl w.heap.size u10 f (vals (G f)) rfl hown2.out (some ⟨bb, ob + sk, none⟩) rm (c' - sk) ys rfl hyl.out hyb.out (fun h => by cases h) (by have := hyl.out; have := hnb2.out; have := hrm.out; omega) hbA.out.size ?_; intro v' w3 hown3 hg3; replace hown3 := hidIt hown3; replace hg3 := hidIt hg3)
        have hown4 : Hid (w3.ownsRow w.heap.size 5 1 v' n (vals (G n))) := by
          rw [hnew.out, ← vals_append]
          have h := hown3.out
          rw [← hyl.out, show f + rm = n by have := hrm.out; omega] at h
          exact h
        have hb4 : Hid (Below w.heap.size w w3) := hbA.out.grown hg3.out hbA.out.size (fun q hq => (hown2.out.lt q hq).1)
        clear hown3 hg3 hown2 hbA hyb
        go_roundw
        case rel => exact ⟨n, pn, Nat.le_refl _, by have := hpn.out; have := hpp.out; have := hrm.out; omega, rfl, hown4, hb4⟩
        case measure => have := hpn.out; have := hrm.out; have := hen.out; have := hpp.out; simp [intOf]; omega
      · have t3 : ¬ (rm : Int) < ((64 - sk : Nat) : Int) := by omega
        obtain ⟨m, hm⟩ : ∃ m, 64 - sk = m := ⟨_, rfl⟩
        rw [hm] at s1 hsub t3
        have hm2 : Hid (sk + m = 64) := by show _ = _; omega
        have hm3 : Hid (m ≤ rm) := by show _ ≤ _; omega
        obtain ⟨pn, hpn⟩ : ∃ pn, Hid (p + m = pn) := ⟨_, rfl⟩
        have e5 : (p : Int) + (m : Int) = (pn : Int) := by have := hpn.out; omega
        have e6 : IntKind.i64.wrap (pn : Int) = (pn : Int) := IntWalk.i64_in _ (by have := hpn.out; have := hpp.out; have := hm3.out; have := hrm.out; have := hob2.out; omega)
        obtain ⟨ys, hys⟩ : ∃ ys, Hid (((K b).drop sk).take m = ys) := ⟨_, rfl⟩
        have hyl : Hid (m = ys.length) := by show _ = _; rw [← hys.out, List.length_take, List.length_drop, hKl.out]; omega
        have hyb : Hid (Bytes w2 (some ⟨bb, ob + sk, none⟩) ys) := by
          have h := hsub.out
          rw [hys.out] at h
          have e : Option.map (fun x => x.add sk) (some (⟨bb, ob, none⟩ : Addr)) = some ⟨bb, ob + sk, none⟩ := by simp [Addr.add]
          rwa [e] at h
        have hnew : Hid (G (f + m) = G f ++ ys) := by
          show _ = _
          rw [← hys.out, hK.out, hG.out, hG.out, ← stream_part (b := b) (sk := sk) (o := o) (f := f) (m := m) (by have := hbs2.out; have := hpp.out; omega) hb32 (by omega), Cc.stream_append]
        clear hsub hm hcut
        go_wp2_with (refine wpList_append_bytes w2 rfl _ _ rfl w.heap.size u10 f (vals (G f)) rfl hown2.out (some ⟨bb, ob + sk, none⟩) m (c' - sk) ys rfl hyl.out hyb.out (fun h => by cases h) (by have := hyl.out; have := hnb2.out; have := hrm.out; have := hm3.out; omega) hbA.out.size ?_; intro v' w3 hown3 hg3; replace hown3 := hidIt hown3; replace hg3 := hidIt hg3)
        have hown4 : Hid (w3.ownsRow w.heap.size 5 1 v' (f + m) (vals (G (f + m)))) := by
          rw [hnew.out, ← vals_append]
          have h := hown3.out
          rw [← hyl.out] at h
          exact h
        have hb4 : Hid (Below w.heap.size w w3) := hbA.out.grown hg3.out hbA.out.size (fun q hq => (hown2.out.lt q hq).1)
        clear hown3 hg3 hown2 hbA hyb
        go_roundw
        case rel => exact ⟨f + m, pn, by have := hm3.out; have := hrm.out; omega, by have := hpn.out; have := hpp.out; omega, rfl, hown4, hb4⟩
        case measure => have := hpn.out; have := hm2.out; have := hm3.out; have := hrm.out; have := hen.out; have := hpp.out; simp [intOf]; omega
    · have hf : f = n := by omega
      have t1 : ¬ (p : Int) < (en : Int) := by have := hen.out; have := hpp.out; omega
      have hl2 := hGl.out n
      rw [hf] at hown
      obtain ⟨a', c', rfl, hby, _⟩ := owned_bytes hown.out hl2.symm
      have hcap := owned_cap hown.out
      have hbF := hidIt hb.out
      clear hown hb hf hp
      go_wp2_with (fail)
      go_ret2
      exact ⟨⟨a', c', by rw [hl2]; rfl, hby, by rw [hl2]; exact hcap⟩, hbF.out⟩
end Go.Proofs.Ytnkemflpenlmgaa
