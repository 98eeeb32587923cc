import Derived.Test.YtegfbmekpmdcaaaDoorRefSum
import Derived.Test.YtegfbmekpmdcaaaDoorTag
import Derived.Test.YtegfbmekpmdcaaaDoorWu
import Derived.Laws.Strings
namespace Go.Proofs.YtegfbmekpmdcaaaDoor
open Go.RowKit
theorem own_below {w w' : World} {base size n : Nat} {e : TypeId} {v : Value} {xs : List Value} (h : w.ownsRow base e size v n xs) (hb : Below w.heap.size w w') : w'.ownsRow base e size v n xs := h.kept (g_below (r := none) hb) (Classical.em _)
set_option maxRecDepth 100000 in
set_option maxHeartbeats 2000000 in
theorem refpad5_any (s : ByteArray) (k : List Nat) (hk : Hid (ofStr s = k)) (x : Nat) (hx : x < 256) (w : World) :
    Calls Tryd.prog 65 #[.string s, .int .u8 (x : Int)] w fun e w' => ∃ a c, e = .returned (.slice a 64 c) ∧ w'.ownsRow w.heap.size 5 1 (.slice a 64 c) 64 (vals (Hm.pad k x)) ∧ Below w.heap.size w w' := by
  have hown : (w.alloc (.cells #[] 5)).ownsRow w.heap.size 5 1 (.slice (some ⟨w.heap.size, 0, none⟩) 0 0) 0 (vals []) := World.ownsRow_made w #[] 0 (Nat.le_refl _) (by unfold maxLen; omega) rfl
  have hb1 : Below w.heap.size w (w.alloc (.cells #[] 5)) := (Below.refl _ _).alloc (Nat.le_refl _) _
  have hown2 := hidIt hown
  have hks : Hid (s.size = k.length) := by show _ = _; rw [← hk.out, ofStr_len]
  have hkl : Hid (∀ i, k.getD i 0 < 256) := fun i => by rw [← hk.out]; exact Hm.getD_lt (ofStr_lt s) i
  clear hown
  go_enter Tryd.func65, Tryd.ntmps65
  go_wp2_with (fail)
  go_loopw [6, 5, 7] (fun i v _ wr => ∃ (j nn : Nat) (a : Option Addr) (c : Nat), j ≤ 64 ∧ Hid (nn = j) ∧ i = .int .i64 (j : Int) ∧ v = .slice a nn c ∧ wr.ownsRow w.heap.size 5 1 v nn (vals ((Hm.pad k x).take j)) ∧ Below w.heap.size w wr) (fun i _ _ _ => 64 - (intOf i).toNat)
  case atStart => exact ⟨0, 0, _, _, by omega, rfl, rfl, rfl, hown2.out, hb1⟩
  case round =>
    obtain ⟨j, nn, a, c, hj, hnn, rfl, rfl, hown, hb⟩ := hrel
    have hown3 := hidIt hown
    clear hown hb1
    by_cases hlt : j < 64
    · obtain ⟨b, hbv⟩ : ∃ b, Hid (k.getD j 0 = b) := ⟨_, rfl⟩
      have hb256 : b < 256 := hbv.out ▸ hkl.out j
      have hxor := u8_xor b x hb256 hx
      obtain ⟨y, hy⟩ : ∃ y, Hid (b ^^^ x = y) := ⟨_, rfl⟩
      rw [hy.out] at hxor
      obtain ⟨l, hl⟩ : ∃ l, Hid ((Hm.pad k x).take j = l) := ⟨_, rfl⟩
      have hll : Hid (nn = l.length) := by show _ = _; rw [← hl.out, List.length_take, Hm.pad_len, hnn.out]; omega
      have hsn : Hid (l ++ [y] = (Hm.pad k x).take (j + 1)) := by
        show _ = _
        rw [List.take_succ_eq_append_getElem (by rw [Hm.pad_len]; exact hlt), hl.out]
        have e := Hm.pad_getD k x j hlt
        rw [List.getD_eq_getElem?_getD, List.getElem?_eq_getElem (by rw [Hm.pad_len]; exact hlt), Option.getD_some] at e
        rw [e, hbv.out, hy.out]
      rw [hl.out] at hown3
      by_cases hin : j < s.size
      · have i1 := fun W => idxStr s j hin .i64 W
        rw [hk.out, hbv.out] at i1
        have t1 : (j : Int) < (s.size : Int) := by omega
        clear hbv hy
        go_wp2_with (at_builtin; refine wpList_append_byte w wr rfl _ _ rfl (.slice a nn c) nn l rfl hll.out hown3.out _ y rfl rfl (by have := hnn.out; omega) hb ?_)
        intro a6 c6 w6 hown6 hb6
        rw [hsn.out] at hown6
        have hown7 := hidIt hown6
        clear hown6 hown3 hb
        go_wp2
        go_roundw
        case rel => exact ⟨j + 1, nn + 1, a6, c6, by omega, by have := hnn.out; show _ = _; omega, by go_num, rfl, hown7.out, hb6⟩
        case measure => simp [intOf]; omega
      · have t1 : ¬ (j : Int) < (s.size : Int) := by omega
        have hb0 : b = 0 := by
          rw [← hbv.out, List.getD_eq_getElem?_getD, List.getElem?_eq_none (by have := hks.out; omega)]; rfl
        have hyx : Hid (y = x) := by show _ = _; rw [← hy.out, hb0]; simp
        have hxor0 : bits BinOp.xor IntKind.u8 0 (x : Int) = (y : Int) := by rw [← hxor, hb0]; rfl
        clear hbv hy hxor hb0
        go_wp2_with (at_builtin; refine wpList_append_byte w wr rfl _ _ rfl (.slice a nn c) nn l rfl hll.out hown3.out _ y rfl rfl (by have := hnn.out; omega) hb ?_)
        intro a6 c6 w6 hown6 hb6
        rw [hsn.out] at hown6
        have hown7 := hidIt hown6
        clear hown6 hown3 hb
        go_wp2
        go_roundw
        case rel => exact ⟨j + 1, nn + 1, a6, c6, by omega, by have := hnn.out; show _ = _; omega, by go_num, rfl, hown7.out, hb6⟩
        case measure => simp [intOf]; omega
    · obtain rfl : j = 64 := by omega
      obtain rfl : nn = 64 := hnn.out
      have e : (Hm.pad k x).take 64 = Hm.pad k x := List.take_of_length_le (by rw [Hm.pad_len]; exact Nat.le_refl _)
      rw [e] at hown3
      clear e
      go_wp2
      go_ret
      exact ⟨a, c, rfl, hown3.out, hb⟩
theorem refpad_54 (s : ByteArray) (k : List Nat) (hk : Hid (ofStr s = k)) (w : World) :
    Calls Tryd.prog 65 #[.string s, .int .u8 54] w fun e w' => ∃ a c, e = .returned (.slice a 64 c) ∧ w'.ownsRow w.heap.size 5 1 (.slice a 64 c) 64 (vals (Hm.pad k 54)) ∧ Below w.heap.size w w' := refpad5_any s k hk 54 (by decide) w
theorem refpad_92 (s : ByteArray) (k : List Nat) (hk : Hid (ofStr s = k)) (w : World) :
    Calls Tryd.prog 65 #[.string s, .int .u8 92] w fun e w' => ∃ a c, e = .returned (.slice a 64 c) ∧ w'.ownsRow w.heap.size 5 1 (.slice a 64 c) 64 (vals (Hm.pad k 92)) ∧ Below w.heap.size w w' := refpad5_any s k hk 92 (by decide) w
theorem refsum_at' (a : Option Addr) (n cap : Nat) (xs : List Nat) (hn : n = xs.length) (hx : ∀ x ∈ xs, x < 256) (hbig : xs.length ≤ 9000) (w : World) (h : Bytes w a xs) (hnil : a = none → cap = 0 ∧ xs = []) :
    Calls Tryd.prog 51 #[.slice a n cap] w fun e w' => e = .returned (.string (str (Sh.sum xs))) ∧ Below w.heap.size w w' := by
  subst hn; exact refsum_any a cap xs hx hbig w h hnil
theorem own_some {w : World} {base n c : Nat} {a : Option Addr} {l : List Nat} (h : w.ownsRow base 5 1 (.slice a n c) n (vals l)) (hn : n = l.length) (h0 : 0 < n) : Bytes w a l ∧ (∃ b, a = some ⟨b, 0, none⟩ ∧ base ≤ b) := by
  obtain ⟨a2, c2, hv, hby, _⟩ := owned_bytes h hn
  simp only [Value.slice.injEq] at hv
  obtain ⟨rfl, _, rfl⟩ := hv
  refine ⟨hby, ?_⟩
  rcases h.2 with ⟨h0', h1'⟩ | ⟨b, cap', cur, hv, hb0, hgg, hle, _⟩
  · omega
  · simp only [Value.slice.injEq, true_and] at hv
    obtain ⟨rfl, rfl⟩ := hv
    exact ⟨b, rfl, hb0⟩
set_option maxRecDepth 100000 in
set_option maxHeartbeats 4000000 in
theorem reftag_short (s : ByteArray) (k : List Nat) (hk : Hid (ofStr s = k)) (hk64 : k.length ≤ 64) (a : Option Addr) (cap : Nat) (xs : List Nat) (hx : ∀ x ∈ xs, x < 256) (hbig : xs.length ≤ 1000) (w : World) (h : Bytes w a xs) (hnil : a = none → cap = 0 ∧ xs = []) :
    Calls Tryd.prog 49 #[.string s, .slice a xs.length cap] w fun e w' => e = .returned (.string (str (Hm.tag k xs))) ∧ Below w.heap.size w w' := by
  have hsz0 : s.size = k.length := by rw [← hk.out, ofStr_len]
  have t0 : ¬ (64 : Int) < (s.size : Int) := by omega
  have hkey : Hid (Hm.key k = k) := by show _ = _; unfold Hm.key; rw [if_neg (by omega)]
  have hkl : ∀ b ∈ k, b < 256 := by rw [← hk.out]; exact ofStr_lt s
  have hw0 := Below.refl w.heap.size w
  clear hsz0
  go_enter Tryd.func49, Tryd.ntmps49
  go_wp2_with (fail)
  refine (refpad_54 s k hk _).mono ?_
  rintro e w2 ⟨a2, c2, rfl, hown2, hb2⟩
  have H2 := below_then hw0 hb2
  have F2 : ∀ q, Value.ownBlock (.slice a2 64 c2) = some q → w.heap.size ≤ q := fun q hq => (hown2.lt q hq).1
  have hown2n := hidIt hown2
  have y2 := hidIt (h.below H2)
  have z2 := hidIt hb2.size
  clear hown2
  go_wp2_with (at_builtin; refine wpList_append_bytes _ rfl _ _ rfl w.heap.size _ 64 (vals (Hm.pad k 54)) rfl hown2n.out a _ cap xs rfl rfl y2.out hnil (by omega) z2.out ?_)
  intro v3 w3 hown3 hg3
  have Q3 : Below w.heap.size w w3 := hb2.grown hg3 hb2.size F2
  obtain ⟨P, hP⟩ : ∃ P, Hid (Hm.pad k 54 ++ xs = P) := ⟨_, rfl⟩
  have hPl : Hid (64 + xs.length = P.length) := by show _ = _; rw [← hP.out, List.length_append, Hm.pad_len]
  have hP256 : Hid (∀ b ∈ P, b < 256) := by
    rw [← hP.out]; intro b hb
    rcases List.mem_append.1 hb with h1 | h1
    · exact Hm.pad_lt hkl (by decide) b h1
    · exact hx b h1
  have hown4 := owned_append hown3 hPl.out
  rw [hP.out] at hown4
  obtain ⟨a4, c4, rfl, hby4, _⟩ := owned_bytes hown4 rfl
  obtain ⟨_, b4, rfl, hb4⟩ := own_some hown4 rfl (by have := hPl.out; omega)
  have H3 := below_then hw0 Q3
  have hby5 := hidIt hby4
  clear hown3 hown4 hby4 hg3 F2 hb2 H2 hown2n y2 z2
  go_wp2_with (fail)
  refine (refsum_any _ c4 P hP256.out (by have := hPl.out; omega) _ hby5.out (fun e => by cases e)).mono ?_
  rintro e w5 ⟨rfl, hb5⟩
  have H5 := below_then H3 hb5
  obtain ⟨D, hD⟩ : ∃ D, Hid (Sh.sum P = D) := ⟨_, rfl⟩
  have hDl : Hid (D.length = 32) := by rw [← hD.out]; exact Sh.sum_len _
  have hD256 : Hid (∀ b ∈ D, b < 256) := by rw [← hD.out]; exact Sh.sum_lt _
  obtain ⟨sd, hsd⟩ : ∃ sd, Hid (str D = sd) := ⟨_, rfl⟩
  have hof : Hid (ofStr sd = D) := by show _ = _; rw [← hsd.out, ofStr_str _ hD256.out]
  rw [hD.out, hsd.out]
  clear hby5 hb5 Q3
  go_wp2_with (fail)
  refine (refpad_92 s k hk _).mono ?_
  rintro e w6 ⟨a6, c6, rfl, hown6, hb6⟩
  obtain ⟨c7, w7, hcv, hby7, hb7, hc7, hlt7⟩ := conv_to sd w6
  rw [hof.out] at hby7
  have hsz : Hid (sd.size = D.length) := by show _ = _; rw [← hof.out, ofStr_len]
  have hown7 := hidIt (own_below hown6 hb7)
  have hb67 := below_then hb6 hb7
  have F7 : ∀ q, Value.ownBlock (.slice a6 64 c6) = some q → w5.heap.size ≤ q := fun q hq => (hown7.out.lt q hq).1
  have z7 := hidIt hb67.size
  have hby8 := hidIt hby7
  clear hown6 hby7
  go_wp2_with (at_builtin; refine wpList_append_bytes _ rfl _ _ rfl w5.heap.size _ 64 (vals (Hm.pad k 92)) rfl hown7.out _ _ c7 D rfl hsz.out hby8.out (fun e => by cases e) (by have := hDl.out; omega) z7.out ?_)
  intro v8 w8 hown8 hg8
  have Q8 : Below w5.heap.size w5 w8 := hb67.grown hg8 hb67.size F7
  obtain ⟨R, hR⟩ : ∃ P, Hid (Hm.pad k 92 ++ D = P) := ⟨_, rfl⟩
  have hRl : Hid (64 + D.length = R.length) := by show _ = _; rw [← hR.out, List.length_append, Hm.pad_len]
  have hR256 : Hid (∀ b ∈ R, b < 256) := by
    rw [← hR.out]; intro b hb
    rcases List.mem_append.1 hb with h1 | h1
    · exact Hm.pad_lt hkl (by decide) b h1
    · exact hD256.out b h1
  have hown9 := owned_append hown8 hRl.out
  rw [hR.out] at hown9
  obtain ⟨a9, c9, rfl, hby9, _⟩ := owned_bytes hown9 rfl
  obtain ⟨_, b9, rfl, hb9⟩ := own_some hown9 rfl (by have := hRl.out; omega)
  have H8 := below_then H5 Q8
  have hby10 := hidIt hby9
  clear hown8 hown9 hby9 hg8 F7 hb6 hb7 hb67 hown7 hby8 z7 hcv
  go_wp2_with (fail)
  refine (refsum_any _ c9 R hR256.out (by have := hRl.out; have := hDl.out; omega) _ hby10.out (fun e => by cases e)).mono ?_
  rintro e w10 ⟨rfl, hb10⟩
  have hres : Hid (Sh.sum R = Hm.tag k xs) := by
    show _ = Sh.sum (Hm.pad (Hm.key k) 92 ++ Sh.sum (Hm.pad (Hm.key k) 54 ++ xs))
    rw [hkey.out, hP.out, hD.out, hR.out]
  rw [hres.out]
  go_wp2_with (fail)
  go_ret
  exact ⟨rfl, below_then H8 hb10⟩
set_option maxRecDepth 100000 in
set_option maxHeartbeats 4000000 in
theorem reftag_long (s : ByteArray) (k : List Nat) (hk : Hid (ofStr s = k)) (hk64 : 64 < k.length) (hkb : k.length ≤ 1200) (a : Option Addr) (cap : Nat) (xs : List Nat) (hx : ∀ x ∈ xs, x < 256) (hbig : xs.length ≤ 1000) (w : World) (h : Bytes w a xs) (hnil : a = none → cap = 0 ∧ xs = []) :
    Calls Tryd.prog 49 #[.string s, .slice a xs.length cap] w fun e w' => e = .returned (.string (str (Hm.tag k xs))) ∧ Below w.heap.size w w' := by
  have hsz0 : s.size = k.length := by rw [← hk.out, ofStr_len]
  have t0 : (64 : Int) < (s.size : Int) := by omega
  have hks := hidIt hsz0
  have hkey : Hid (Hm.key k = Sh.sum k) := by show _ = _; unfold Hm.key; rw [if_pos hk64]
  have hkl0 : ∀ b ∈ k, b < 256 := by rw [← hk.out]; exact ofStr_lt s
  have hkl : ∀ b ∈ Sh.sum k, b < 256 := Sh.sum_lt k
  obtain ⟨c0, v0, hcv0, hby0, hb0, hc0, hlt0⟩ := conv_to s w
  rw [hk.out] at hby0
  clear hsz0
  go_enter Tryd.func49, Tryd.ntmps49
  go_wp2_with (fail)
  refine (refsum_at' _ s.size c0 k hks.out hkl0 (by omega) _ hby0 (fun e => by cases e)).mono ?_
  rintro e v ⟨rfl, hv0⟩
  have hv := below_then hb0 hv0
  obtain ⟨K, hK⟩ : ∃ K, Hid (Sh.sum k = K) := ⟨_, rfl⟩
  obtain ⟨s2, hs2⟩ : ∃ s2, Hid (str K = s2) := ⟨_, rfl⟩
  rw [hK.out] at hkl hkey
  have hk2 : Hid (ofStr s2 = K) := by show _ = _; rw [← hs2.out, ofStr_str _ hkl]
  rw [hK.out, hs2.out]
  clear hcv0 hby0 hb0 hv0 t0
  go_wp2_with (fail)
  refine (refpad_54 s2 K hk2 _).mono ?_
  rintro e w2 ⟨a2, c2, rfl, hown2, hb2⟩
  have H2 := below_then hv hb2
  have F2 : ∀ q, Value.ownBlock (.slice a2 64 c2) = some q → v.heap.size ≤ q := fun q hq => (hown2.lt q hq).1
  have hown2n := hidIt hown2
  have y2 := hidIt (h.below H2)
  have z2 := hidIt hb2.size
  clear hown2
  go_wp2_with (at_builtin; refine wpList_append_bytes _ rfl _ _ rfl v.heap.size _ 64 (vals (Hm.pad K 54)) rfl hown2n.out a _ cap xs rfl rfl y2.out hnil (by omega) z2.out ?_)
  intro v3 w3 hown3 hg3
  have Q3 : Below v.heap.size v w3 := hb2.grown hg3 hb2.size F2
  obtain ⟨P, hP⟩ : ∃ P, Hid (Hm.pad K 54 ++ xs = P) := ⟨_, rfl⟩
  have hPl : Hid (64 + xs.length = P.length) := by show _ = _; rw [← hP.out, List.length_append, Hm.pad_len]
  have hP256 : Hid (∀ b ∈ P, b < 256) := by
    rw [← hP.out]; intro b hb
    rcases List.mem_append.1 hb with h1 | h1
    · exact Hm.pad_lt hkl (by decide) b h1
    · exact hx b h1
  have hown4 := owned_append hown3 hPl.out
  rw [hP.out] at hown4
  obtain ⟨a4, c4, rfl, hby4, _⟩ := owned_bytes hown4 rfl
  obtain ⟨_, b4, rfl, hb4⟩ := own_some hown4 rfl (by have := hPl.out; omega)
  have H3 := below_then hv Q3
  have hby5 := hidIt hby4
  clear hown3 hown4 hby4 hg3 F2 hb2 H2 hown2n y2 z2
  go_wp2_with (fail)
  refine (refsum_any _ c4 P hP256.out (by have := hPl.out; omega) _ hby5.out (fun e => by cases e)).mono ?_
  rintro e w5 ⟨rfl, hb5⟩
  have H5 := below_then H3 hb5
  obtain ⟨D, hD⟩ : ∃ D, Hid (Sh.sum P = D) := ⟨_, rfl⟩
  have hDl : Hid (D.length = 32) := by rw [← hD.out]; exact Sh.sum_len _
  have hD256 : Hid (∀ b ∈ D, b < 256) := by rw [← hD.out]; exact Sh.sum_lt _
  obtain ⟨sd, hsd⟩ : ∃ sd, Hid (str D = sd) := ⟨_, rfl⟩
  have hof : Hid (ofStr sd = D) := by show _ = _; rw [← hsd.out, ofStr_str _ hD256.out]
  rw [hD.out, hsd.out]
  clear hby5 hb5 Q3
  go_wp2_with (fail)
  refine (refpad_92 s2 K hk2 _).mono ?_
  rintro e w6 ⟨a6, c6, rfl, hown6, hb6⟩
  obtain ⟨c7, w7, hcv, hby7, hb7, hc7, hlt7⟩ := conv_to sd w6
  rw [hof.out] at hby7
  have hsz : Hid (sd.size = D.length) := by show _ = _; rw [← hof.out, ofStr_len]
  have hown7 := hidIt (own_below hown6 hb7)
  have hb67 := below_then hb6 hb7
  have F7 : ∀ q, Value.ownBlock (.slice a6 64 c6) = some q → w5.heap.size ≤ q := fun q hq => (hown7.out.lt q hq).1
  have z7 := hidIt hb67.size
  have hby8 := hidIt hby7
  clear hown6 hby7
  go_wp2_with (at_builtin; refine wpList_append_bytes _ rfl _ _ rfl w5.heap.size _ 64 (vals (Hm.pad K 92)) rfl hown7.out _ _ c7 D rfl hsz.out hby8.out (fun e => by cases e) (by have := hDl.out; omega) z7.out ?_)
  intro v8 w8 hown8 hg8
  have Q8 : Below w5.heap.size w5 w8 := hb67.grown hg8 hb67.size F7
  obtain ⟨R, hR⟩ : ∃ P, Hid (Hm.pad K 92 ++ D = P) := ⟨_, rfl⟩
  have hRl : Hid (64 + D.length = R.length) := by show _ = _; rw [← hR.out, List.length_append, Hm.pad_len]
  have hR256 : Hid (∀ b ∈ R, b < 256) := by
    rw [← hR.out]; intro b hb
    rcases List.mem_append.1 hb with h1 | h1
    · exact Hm.pad_lt hkl (by decide) b h1
    · exact hD256.out b h1
  have hown9 := owned_append hown8 hRl.out
  rw [hR.out] at hown9
  obtain ⟨a9, c9, rfl, hby9, _⟩ := owned_bytes hown9 rfl
  obtain ⟨_, b9, rfl, hb9⟩ := own_some hown9 rfl (by have := hRl.out; omega)
  have H8 := below_then H5 Q8
  have hby10 := hidIt hby9
  clear hown8 hown9 hby9 hg8 F7 hb6 hb7 hb67 hown7 hby8 z7 hcv
  go_wp2_with (fail)
  refine (refsum_any _ c9 R hR256.out (by have := hRl.out; have := hDl.out; omega) _ hby10.out (fun e => by cases e)).mono ?_
  rintro e w10 ⟨rfl, hb10⟩
  have hres : Hid (Sh.sum R = Hm.tag k xs) := by
    show _ = Sh.sum (Hm.pad (Hm.key k) 92 ++ Sh.sum (Hm.pad (Hm.key k) 54 ++ xs))
    rw [hkey.out, hP.out, hD.out, hR.out]
  rw [hres.out]
  go_wp2_with (fail)
  go_ret
  exact ⟨rfl, below_then H8 hb10⟩
theorem reftag_any (s : ByteArray) (k : List Nat) (hk : Hid (ofStr s = k)) (hkb : k.length ≤ 1200) (a : Option Addr) (cap : Nat) (xs : List Nat) (hx : ∀ x ∈ xs, x < 256) (hbig : xs.length ≤ 1000) (w : World) (h : Bytes w a xs) (hnil : a = none → cap = 0 ∧ xs = []) :
    Calls Tryd.prog 49 #[.string s, .slice a xs.length cap] w fun e w' => e = .returned (.string (str (Hm.tag k xs))) ∧ Below w.heap.size w w' := by
  by_cases h64 : 64 < k.length
  · exact reftag_long s k hk h64 hkb a cap xs hx hbig w h hnil
  · exact reftag_short s k hk (by omega) a cap xs hx hbig w h hnil
end Go.Proofs.YtegfbmekpmdcaaaDoor
