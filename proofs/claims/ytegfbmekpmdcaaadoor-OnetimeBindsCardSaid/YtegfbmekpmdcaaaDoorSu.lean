import Derived.Test.YtegfbmekpmdcaaaDoorCl
import Derived.Test.YtegfbmekpmdcaaaDoorPerm
namespace Go.Proofs.YtegfbmekpmdcaaaDoor
open Go.RowKit
theorem pad_take (k : List Nat) (x j : Nat) (h : j < 64) : (Hm.pad k x).take (j + 1) = (Hm.pad k x).take j ++ [k.getD j 0 ^^^ x] := by
  rw [List.take_succ_eq_append_getElem (by rw [Hm.pad_len]; exact h)]
  have e := Hm.pad_getD k x j h
  rw [List.getD_eq_getElem?_getD, List.getElem?_eq_getElem (by rw [Hm.pad_len]; exact h), Option.getD_some] at e
  rw [e]
def padS (k : List Nat) (x j : Nat) : ByteArray := str ((Hm.pad k x).take j)
theorem padS_size (k : List Nat) (x j : Nat) (h : j ≤ 64) : (padS k x j).size = j := by unfold padS; rw [str_size, List.length_take, Hm.pad_len]; omega
theorem padS_next (k : List Nat) (x j : Nat) (h : j < 64) : padS k x j ++ str [k.getD j 0 ^^^ x] = padS k x (j + 1) := by unfold padS; rw [str_add, pad_take k x j h]
theorem padS_all (k : List Nat) (x : Nat) : padS k x 64 = str (Hm.pad k x) := by unfold padS; rw [List.take_of_length_le (by rw [Hm.pad_len]; exact Nat.le_refl _)]
theorem padS_zero (k : List Nat) (x : Nat) : padS k x 0 = ⟨#[]⟩ := by unfold padS; rfl
theorem byte_new (w : World) (b : Nat) : Bytes (w.alloc (.cells #[.int .u8 (b : Int)] 5)) (some ⟨w.heap.size, 0, none⟩) [b] := by
  intro i hi
  have h0 : i = 0 := by simpa using hi
  subst h0
  exact ⟨_, 0, rfl, by rw [cell_of_row _ _ _ _ _ _ (heap_alloc_new w _)]; rfl⟩
theorem one_conv (y : Nat) (W : World) : (convert 66 9 (.slice (some ⟨W.heap.size, 0, none⟩) 1 1)).run Tryd.prog (W.alloc (.cells #[.int .u8 (y : Int)] 5)) = .ok (.string (str [y])) (W.alloc (.cells #[.int .u8 (y : Int)] 5)) := conv_str _ _ 1 1 [y] rfl (byte_new W y)
def Su.A (ks : List Nat) (i : Nat) : ByteArray := str (Hm.pad ks 54 ++ (Ot.txSecret ++ [i]))
def Su.B (ks : List Nat) (i : Nat) : ByteArray := str (Hm.pad ks 92 ++ Sh.sum (Hm.pad ks 54 ++ (Ot.txSecret ++ [i])))
def Su.I (ks : List Nat) (i j : Nat) : ByteArray := str (Ot.inp i j (Ot.vl ks i j))
def Su.Y (F : Nat → Nat) (ss : List ByteArray) (i j : Nat) : ByteArray := Ot.chn i (F i) (j - F i) (ss.getD i ByteArray.empty)
def Su.J (F : Nat → Nat) (ss : List ByteArray) (i j : Nat) : ByteArray := str (Ot.inp i j (Su.Y F ss i j))
def Su.R (A B : Nat → ByteArray) (I J : Nat → Nat → ByteArray) (F : Nat → Nat) (l n : Nat) (e1 e2 : ByteArray) (e : Ending) (w' : World) : Prop :=
  ∃ a' k c L, e = .returned (.slice a' k c) ∧ k = L.length ∧ Strs w' a' L ∧ SuG A B I J F l n e1 e2 L
theorem inp_size (i j : Nat) (x : ByteArray) (hx : x.size = 32) : (str (Ot.inp i j x)).size ≤ 60 := by
  rw [str_size]; unfold Ot.inp
  have h1 := (En.enc_len i).2
  have h2 := (En.enc_len j).2
  rw [List.length_append, List.length_append, List.length_append, ofStr_len, hx]
  have : Ot.txChain.length = 5 := rfl
  omega
theorem chn_go (i f j : Nat) (h : f ≤ j) (x : ByteArray) : Ot.chn i j 1 (Ot.chn i f (j - f) x) = Ot.chn i f (j + 1 - f) x := by
  have := Ot.chn_add i f (j - f) x 1
  rw [show f + (j - f) = j by omega, show j - f + 1 = j + 1 - f by omega] at this
  exact this.symm
structure DQ (wo : World) (G : Nat) (b s : Int) (ad : Option Addr) (n : Nat) (F : Nat → Nat) (W : World) : Prop where
  ps : PS wo G b s W
  dg : Ints W ad n F
theorem DQ.next {wo W W' : World} {G n : Nat} {b s : Int} {ad : Option Addr} {F : Nat → Nat} (h : DQ wo G b s ad n F W) (hb : Below W.heap.size W W') : DQ wo G b s ad n F W' := ⟨h.ps.next hb, h.dg.below hb⟩
theorem DQ.drew {wo W : World} {G n : Nat} {b s : Int} {ad : Option Addr} {F : Nat → Nat} (h : DQ wo G b s ad n F W) : DQ wo G b s ad n F W.drew := h.next (Below.refl _ _).drew
theorem DQ.new {wo W : World} {G n : Nat} {b s : Int} {ad : Option Addr} {F : Nat → Nat} (h : DQ wo G b s ad n F W) (o : Obj) : DQ wo G b s ad n F (W.alloc o) := h.next ((Below.refl _ _).alloc (Nat.le_refl _) o)
theorem DQ.behind {wo W W' : World} {G n : Nat} {b s : Int} {ad : Option Addr} {F : Nat → Nat} (hb : Below W.heap.size W W') (h : DQ wo G b s ad n F W) : DQ wo G b s ad n F W' := h.next hb
theorem DQ.bel {wo W : World} {G n : Nat} {b s : Int} {ad : Option Addr} {F : Nat → Nat} (h : DQ wo G b s ad n F W) : Below wo.heap.size wo W := h.ps.bel
theorem DQ.all {wo W : World} {G n : Nat} {b s : Int} {ad : Option Addr} {F : Nat → Nat} (h : DQ wo G b s ad n F W) : DQ wo G b s ad n F W ∧ W.cell? ⟨G, 0, none⟩ = some (.int .i64 b) ∧ W.cell? ⟨G, 1, none⟩ = some (.int .i64 s) := ⟨h, h.ps.c0, h.ps.c1⟩
set_option linter.unusedSimpArgs false in
set_option maxRecDepth 100000 in
set_option maxHeartbeats 4000000 in
theorem summed_any (b s : Nat) (ho : Ot.okB b s = true) (ht : Ot.tot b s ≤ 127) (sd : ByteArray) (ks : List Nat) (hk : Hid (ofStr sd = ks)) (hs32 : sd.size = 32) (dig : ByteArray) (xs : List Nat) (hx : Hid (ofStr dig = xs)) (hsz : (dig.size : Int) = (s : Int)) (a : Option Addr) (n cap : Nat) (ss : List ByteArray) (hn : n = ss.length) (hnt : n = Ot.tot b s) (h32 : ∀ i, i < n → (ss.getD i ByteArray.empty).size = 32) (w : World) (hSt : Strs w a ss) :
    Calls Tryd.prog 39 #[.agg #[.int .i64 (b : Int), .int .i64 (s : Int)], .string sd, .string dig, .slice a n cap] w fun e w' =>
      Su.R (Su.A ks) (Su.B ks) (Su.I ks) (Su.J (Ot.dgs b s xs) ss) (Ot.dgs b s xs) (Ot.las b) n (str (Ot.endsTo (Ot.goE b (fun _ => 0) ((List.range n).map (Ot.sec ks))) n)) (str (Ot.endsTo (Ot.goE b (Ot.dgs b s xs) ss) n)) e w' ∧ Below w.heap.size w w' := by
  have hl255 := (Ot.las_bd b s ho).2.1
  have hkl : ks.length = 32 := by rw [← hk.out, ofStr_len]; exact hs32
  have hn127 : n ≤ 127 := by omega
  have hn1 : 1 ≤ n := by have := (Ot.tot_bd b s ho).1; omega
  have hs32' := hidIt hs32
  have dB : Hid (∀ W, Calls Tryd.prog 43 #[.agg #[.int .i64 (b : Int), .int .i64 (s : Int)]] W fun e w' => e = .returned (.int .i64 ((Ot.las b : Int) + 1)) ∧ Below W.heap.size W w') := fun W => refbase_any b s ho W
  have dS : Hid (∀ W, Calls Tryd.prog 56 #[.agg #[.int .i64 (b : Int), .int .i64 (s : Int)], .string sd] W fun e w' => RSt e w' ((List.range n).map (Ot.sec ks)) n ∧ Below W.heap.size W w') := fun W => by rw [hnt]; exact refstart_any b s ho sd ks hk (by omega) W
  have dD : Hid (∀ W, Calls Tryd.prog 21 #[.agg #[.int .i64 (b : Int), .int .i64 (s : Int)], .string dig] W fun e w' => RdF W e w' (Ot.dgs b s xs) n ∧ Below W.heap.size W w') := fun W => by rw [hnt]; exact refdigits_own b s ho dig xs hx hsz W
  have hFl : Hid (∀ i, Ot.dgs b s xs i ≤ Ot.las b) := fun i => Ot.dgs_le b s xs i
  have dE1 : Hid (∀ W g a c, Ints W (some ⟨g, 0, none⟩) n (fun _ => 0) → Strs W a ((List.range n).map (Ot.sec ks)) → Calls Tryd.prog 57 #[.agg #[.int .i64 (b : Int), .int .i64 (s : Int)], .slice (some ⟨g, 0, none⟩) n n, .slice a n c] W fun e w' => e = .returned (.string (str (Ot.endsTo (Ot.goE b (fun _ => 0) ((List.range n).map (Ot.sec ks))) n))) ∧ Below W.heap.size W w') := fun W g a c h1 h2 => refends_any b s ho (some ⟨g, 0, none⟩) a n n c (fun _ => 0) _ (by simp) (by omega) (fun _ _ => Nat.zero_le _) (fun i hi => by rw [List.getD_eq_getElem?_getD, List.getElem?_map, List.getElem?_range hi]; exact Ot.sec_size _ _) W h1 h2
  have dE2 : Hid (∀ W ad cd, Ints W ad n (Ot.dgs b s xs) → Strs W a ss → Calls Tryd.prog 57 #[.agg #[.int .i64 (b : Int), .int .i64 (s : Int)], .slice ad n cd, .slice a n cap] W fun e w' => e = .returned (.string (str (Ot.endsTo (Ot.goE b (Ot.dgs b s xs) ss) n))) ∧ Below W.heap.size W w') := fun W ad cd h1 h2 => refends_any b s ho ad a n cd cap _ _ hn (by omega) (fun i _ => hFl.out i) h32 W h1 h2
  have z1 : (str (Ot.endsTo (Ot.goE b (fun _ => 0) ((List.range n).map (Ot.sec ks))) n)).size ≤ 9000 := by
    rw [str_size, Ot.endsTo_len (E := Ot.goE b (fun _ => 0) ((List.range n).map (Ot.sec ks))) n (fun i hi => Ot.chn_size _ _ _ _ (by rw [List.getD_eq_getElem?_getD, List.getElem?_map, List.getElem?_range hi]; exact Ot.sec_size _ _))]; omega
  have z2 : (str (Ot.endsTo (Ot.goE b (Ot.dgs b s xs) ss) n)).size ≤ 9000 := by
    rw [str_size, Ot.endsTo_len (E := Ot.goE b (Ot.dgs b s xs) ss) n (fun i hi => Ot.chn_size _ _ _ _ (h32 i hi))]; omega
  have dI1 : Hid (∀ (i j : Nat) W, i < n → j < Ot.las b → Calls Tryd.prog 52 #[.int .i64 (i : Int), .int .i64 (j : Int), .string (Ot.vl ks i j)] W fun e w' => e = .returned (.string (Su.I ks i j)) ∧ Below W.heap.size W w') := fun i j W hi hj => refinput_any i j (by omega) (by omega) _ (by rw [Ot.vl_size]; omega) W
  have dC1 : Hid (∀ (i j : Nat) W, i < n → j < Ot.las b → Calls Tryd.prog 26 #[.int .i64 (i : Int), .int .i64 (j : Int), .int .i64 ((j : Int) + 1), .string (Ot.vl ks i j)] W fun e w' => e = .returned (.string (Ot.vl ks i (j + 1))) ∧ Below W.heap.size W w') := fun i j W hi hj => by
    have := refchain_any i j (j + 1) (by omega) (by omega) (by omega) (Ot.vl ks i j) (Ot.vl_size _ _ _) W
    rw [show j + 1 - j = 1 by omega] at this
    have e : Ot.chn i j 1 (Ot.vl ks i j) = Ot.vl ks i (j + 1) := chn_go i 0 j (by omega) _
    rw [e] at this
    exact this
  have dI3 : Hid (∀ (i j : Nat) W, i < n → j < Ot.las b → Calls Tryd.prog 52 #[.int .i64 (i : Int), .int .i64 (j : Int), .string (Su.Y (Ot.dgs b s xs) ss i j)] W fun e w' => e = .returned (.string (Su.J (Ot.dgs b s xs) ss i j)) ∧ Below W.heap.size W w') := fun i j W hi hj => refinput_any i j (by omega) (by omega) _ (by unfold Su.Y; rw [Ot.chn_size _ _ _ _ (h32 i hi)]; omega) W
  have dC3 : Hid (∀ (i j : Nat) W, i < n → Ot.dgs b s xs i ≤ j → j < Ot.las b → Calls Tryd.prog 26 #[.int .i64 (i : Int), .int .i64 (j : Int), .int .i64 ((j : Int) + 1), .string (Su.Y (Ot.dgs b s xs) ss i j)] W fun e w' => e = .returned (.string (Su.Y (Ot.dgs b s xs) ss i (j + 1))) ∧ Below W.heap.size W w') := fun i j W hi hf hj => by
    have := refchain_any i j (j + 1) (by omega) (by omega) (by omega) (Su.Y (Ot.dgs b s xs) ss i j) (Ot.chn_size _ _ _ _ (h32 i hi)) W
    rw [show j + 1 - j = 1 by omega] at this
    have e : Ot.chn i j 1 (Su.Y (Ot.dgs b s xs) ss i j) = Su.Y (Ot.dgs b s xs) ss i (j + 1) := chn_go i _ j hf _
    rw [e] at this
    exact this
  have zI : Hid (∀ i j, (Su.I ks i j).size ≤ 9000) := fun i j => Nat.le_trans (inp_size i j _ (Ot.vl_size _ _ _)) (by omega)
  have zJ : Hid (∀ i j, i < n → (Su.J (Ot.dgs b s xs) ss i j).size ≤ 9000) := fun i j hi => Nat.le_trans (inp_size i j _ (Ot.chn_size _ _ _ _ (h32 i hi))) (by omega)
  have hX0 : Hid (∀ i, Ot.vl ks i 0 = Ot.sec ks i) := fun i => rfl
  have hY0 : Hid (∀ i, Su.Y (Ot.dgs b s xs) ss i (Ot.dgs b s xs i) = ss.getD i ByteArray.empty) := fun i => by unfold Su.Y; rw [Nat.sub_self]; rfl
  have hkb : Hid (∀ i, ks.getD i 0 < 256) := fun i => by rw [← hk.out]; exact Hm.getD_lt (ofStr_lt sd) i
  have hget : Hid (∀ i, i < n → ((List.range n).map (Ot.sec ks)).getD i ByteArray.empty = Ot.sec ks i) := fun i hi => by
    rw [List.getD_eq_getElem?_getD, List.getElem?_map, List.getElem?_range hi]; rfl
  obtain ⟨l, hl⟩ : ∃ l, Hid (Ot.las b = l) := ⟨_, rfl⟩
  obtain ⟨F, hF⟩ : ∃ F, Hid (Ot.dgs b s xs = F) := ⟨_, rfl⟩
  obtain ⟨ST, hST⟩ : ∃ ST, Hid ((List.range n).map (Ot.sec ks) = ST) := ⟨_, rfl⟩
  have hSTl : Hid (ST.length = n) := by show _ = _; rw [← hST.out]; simp
  rw [hST.out] at dS dE1 z1 hget
  obtain ⟨e1, he1⟩ : ∃ e, Hid (str (Ot.endsTo (Ot.goE b (fun _ => 0) ST) n) = e) := ⟨_, rfl⟩
  obtain ⟨e2, he2⟩ : ∃ e, Hid (str (Ot.endsTo (Ot.goE b (Ot.dgs b s xs) ss) n) = e) := ⟨_, rfl⟩
  rw [he1.out] at dE1 z1
  rw [he2.out] at dE2 z2
  rw [hST.out, he1.out, he2.out]
  obtain ⟨X, hX⟩ : ∃ X, Hid (Ot.vl ks = X) := ⟨_, rfl⟩
  obtain ⟨Y, hY⟩ : ∃ Y, Hid (Su.Y (Ot.dgs b s xs) ss = Y) := ⟨_, rfl⟩
  obtain ⟨I, hI⟩ : ∃ I, Hid (Su.I ks = I) := ⟨_, rfl⟩
  obtain ⟨J, hJ⟩ : ∃ J, Hid (Su.J (Ot.dgs b s xs) ss = J) := ⟨_, rfl⟩
  obtain ⟨A, hA⟩ : ∃ A, Hid (Su.A ks = A) := ⟨_, rfl⟩
  obtain ⟨B, hB⟩ : ∃ B, Hid (Su.B ks = B) := ⟨_, rfl⟩
  rw [hX.out] at dI1 dC1 hX0
  rw [hY.out] at dI3 dC3 hY0
  rw [hI.out] at dI1 zI
  rw [hJ.out] at dI3 zJ
  rw [hA.out, hB.out, hI.out, hJ.out]
  rw [hl.out] at dB hFl dI1 dC1 dI3 dC3 hl255
  rw [hF.out] at dD hFl dE2 dC3 hY0
  rw [hl.out, hF.out]
  have hS' := hidIt hSt
  have hsl := hidIt hn
  have hn127' := hidIt hn127
  have p0 := rs_new w (b : Int) (s : Int)
  have e0 := p0.c0
  have e1' := p0.c1
  clear hl hF hST he1 he2 hX hY hI hJ ho ht hx hsz hn hnt h32 hSt hs32
  go_enter Tryd.func39, Tryd.ntmps39
  go_wp2_with (fail)
  refine (dS.out _).mono ?_
  rintro e wo ⟨⟨ast, cst, rfl, hst, hcs⟩, hb2⟩
  have po := hidIt (p0.next hb2)
  have hSo := hidIt hst
  have hPo := hidIt (hS'.out.below po.out.bel)
  clear p0 e0 e1' hb2 hst dS hS'
  go_wp2_with (fail)
  go_loopw [29, 9] (fun iv v wr => ∃ (i k : Nat) (L : List ByteArray), iv = .int .i64 (i : Int) ∧ i ≤ n ∧ Hid (k = L.length) ∧ Hid (S1 A B I l i 0 L) ∧ wr.ownsRow wo.heap.size 9 1 v k (svals L) ∧ Below wo.heap.size wo wr) (fun iv _ _ => n - (intOf iv).toNat)
  case atStart => exact ⟨0, 0, [], rfl, by omega, rfl, S1.zero A B I l, ⟨rfl, .inl ⟨rfl, rfl⟩⟩, Below.refl _ _⟩
  case round =>
    obtain ⟨i, k, L, rfl, hi, hkL, hS1, hown, hb⟩ := hrel
    by_cases hlt : i < n
    · obtain ⟨b2, o2, rfl, q2⟩ := hSo.out i (by rw [hSTl.out]; exact hlt)
      rw [hget.out i hlt] at q2
      have c2 : wr.cell? ⟨b2, o2 + i, none⟩ = some (.string (Ot.sec ks i)) := (hb.cell (p := ⟨b2, o2 + i, none⟩) (bytes_lt q2)).trans q2
      obtain ⟨x, hxi⟩ : ∃ x, Hid (Ot.sec ks i = x) := ⟨_, rfl⟩
      rw [hxi.out] at c2
      have hown' := hidIt hown
      have hb' := hidIt hb
      obtain ⟨wp, rfl⟩ : ∃ wp : World, wp = wr := ⟨_, rfl⟩
      clear hown hb q2
      go_wp2_with (fail)
      go_loopw [14, 13] (fun kv v wr => ∃ j : Nat, kv = .int .i64 (j : Int) ∧ j ≤ 64 ∧ v = .string (padS ks 92 j) ∧ Below wp.heap.size wp wr) (fun kv _ _ => 64 - (intOf kv).toNat)
      case atStart => exact ⟨0, rfl, by omega, by rw [padS_zero], Below.refl _ _⟩
      case round =>
        obtain ⟨j, rfl, hj, rfl, hbj⟩ := hrel
        by_cases hj64 : j < 64
        · obtain ⟨c, hc⟩ : ∃ c, Hid (ks.getD j 0 = c) := ⟨_, rfl⟩
          have hc256 : c < 256 := hc.out ▸ hkb.out j
          obtain ⟨y, hy⟩ : ∃ y, Hid (c ^^^ 92 = y) := ⟨_, rfl⟩
          have hxor : bits BinOp.xor IntKind.u8 (c : Int) 92 = (y : Int) := by rw [← hy.out]; exact u8_xor c 92 hc256 (by decide)
          obtain ⟨o, hoo⟩ : ∃ o, Hid (padS ks 92 j = o) := ⟨_, rfl⟩
          obtain ⟨t, ht⟩ : ∃ t, Hid (str [y] = t) := ⟨_, rfl⟩
          obtain ⟨o', ho'⟩ : ∃ o', Hid (padS ks 92 (j + 1) = o') := ⟨_, rfl⟩
          have hnx : o ++ t = o' := by rw [← ho'.out, ← hoo.out, ← ht.out, ← hy.out, ← hc.out]; exact padS_next ks 92 j hj64
          have gs : ¬ (9223372036854775807 : Nat) < o.size + t.size := by rw [← hoo.out, ← ht.out, padS_size _ _ _ hj, str_size]; show ¬ _ < j + 1; omega
          have kc := one_conv y
          simp only [ht.out] at kc
          rw [hoo.out]
          have hbj' := hidIt hbj
          by_cases hj32 : j < 32
          · have i1 := fun W => idxStr sd j (by have := hs32'.out; omega) .i64 W
            rw [hk.out, hc.out] at i1
            have t1 : (j : Int) < (sd.size : Int) := by have := hs32'.out; omega
            clear hc hy hoo ht hbj
            go_wp2_with (fail)
            go_roundw
            case rel => exact ⟨j + 1, by go_num, by omega, by rw [ho'.out], below_then hbj'.out ((Below.refl _ _).alloc (Nat.le_refl _) _)⟩
            case measure => simp [intOf]; omega
          · have t1 : ¬ (j : Int) < (sd.size : Int) := by have := hs32'.out; omega
            have hc0 : c = 0 := by rw [← hc.out, List.getD_eq_getElem?_getD, List.getElem?_eq_none (by omega)]; rfl
            have hxor0 : bits BinOp.xor IntKind.u8 0 92 = (y : Int) := by rw [← hxor, hc0]; rfl
            clear hc hy hoo ht hbj hxor hc0
            go_wp2_with (fail)
            go_roundw
            case rel => exact ⟨j + 1, by go_num, by omega, by rw [ho'.out], below_then hbj'.out ((Below.refl _ _).alloc (Nat.le_refl _) _)⟩
            case measure => simp [intOf]; omega
        · obtain rfl : j = 64 := by omega
          rw [padS_all]
          obtain ⟨PO, hPO⟩ : ∃ PO, Hid (str (Hm.pad ks 92) = PO) := ⟨_, rfl⟩
          rw [hPO.out]
          have hbq := hidIt (below_then hb'.out hbj)
          have ownq := hidIt (own_belowS hown'.out hbj)
          obtain ⟨wq, rfl⟩ : ∃ wq : World, wq = wr := ⟨_, rfl⟩
          clear hbj hb' hown' c2
          go_wp2_with (fail)
          go_loopw [17, 16] (fun kv v wr => ∃ j : Nat, kv = .int .i64 (j : Int) ∧ j ≤ 64 ∧ v = .string (padS ks 54 j) ∧ Below wq.heap.size wq wr) (fun kv _ _ => 64 - (intOf kv).toNat)
          case atStart => exact ⟨0, rfl, by omega, by rw [padS_zero], Below.refl _ _⟩
          case round =>
            obtain ⟨j, rfl, hj, rfl, hbj⟩ := hrel
            by_cases hj64 : j < 64
            · obtain ⟨c, hc⟩ : ∃ c, Hid (ks.getD j 0 = c) := ⟨_, rfl⟩
              have hc256 : c < 256 := hc.out ▸ hkb.out j
              obtain ⟨y, hy⟩ : ∃ y, Hid (c ^^^ 54 = y) := ⟨_, rfl⟩
              have hxor : bits BinOp.xor IntKind.u8 (c : Int) 54 = (y : Int) := by rw [← hy.out]; exact u8_xor c 54 hc256 (by decide)
              obtain ⟨o, hoo⟩ : ∃ o, Hid (padS ks 54 j = o) := ⟨_, rfl⟩
              obtain ⟨t, ht⟩ : ∃ t, Hid (str [y] = t) := ⟨_, rfl⟩
              obtain ⟨o', ho'⟩ : ∃ o', Hid (padS ks 54 (j + 1) = o') := ⟨_, rfl⟩
              have hnx : o ++ t = o' := by rw [← ho'.out, ← hoo.out, ← ht.out, ← hy.out, ← hc.out]; exact padS_next ks 54 j hj64
              have gs : ¬ (9223372036854775807 : Nat) < o.size + t.size := by rw [← hoo.out, ← ht.out, padS_size _ _ _ hj, str_size]; show ¬ _ < j + 1; omega
              have kc := one_conv y
              simp only [ht.out] at kc
              rw [hoo.out]
              have hbj' := hidIt hbj
              by_cases hj32 : j < 32
              · have i1 := fun W => idxStr sd j (by have := hs32'.out; omega) .i64 W
                rw [hk.out, hc.out] at i1
                have t1 : (j : Int) < (sd.size : Int) := by have := hs32'.out; omega
                clear hc hy hoo ht hbj
                go_wp2_with (fail)
                go_roundw
                case rel => exact ⟨j + 1, by go_num, by omega, by rw [ho'.out], below_then hbj'.out ((Below.refl _ _).alloc (Nat.le_refl _) _)⟩
                case measure => simp [intOf]; omega
              · have t1 : ¬ (j : Int) < (sd.size : Int) := by have := hs32'.out; omega
                have hc0 : c = 0 := by rw [← hc.out, List.getD_eq_getElem?_getD, List.getElem?_eq_none (by omega)]; rfl
                have hxor0 : bits BinOp.xor IntKind.u8 0 54 = (y : Int) := by rw [← hxor, hc0]; rfl
                clear hc hy hoo ht hbj hxor hc0
                go_wp2_with (fail)
                go_roundw
                case rel => exact ⟨j + 1, by go_num, by omega, by rw [ho'.out], below_then hbj'.out ((Below.refl _ _).alloc (Nat.le_refl _) _)⟩
                case measure => simp [intOf]; omega
            · obtain rfl : j = 64 := by omega
              rw [padS_all]
              obtain ⟨PI, hPI⟩ : ∃ PI, Hid (str (Hm.pad ks 54) = PI) := ⟨_, rfl⟩
              rw [hPI.out]
              obtain ⟨t1, ht1⟩ : ∃ t : ByteArray, Hid (PI ++ ⟨#[115, 101, 99, 114, 101, 116]⟩ = t) := ⟨_, rfl⟩
              obtain ⟨u, hu⟩ : ∃ u, Hid (str [i] = u) := ⟨_, rfl⟩
              obtain ⟨z, hz⟩ : ∃ z, Hid (A i = z) := ⟨_, rfl⟩
              obtain ⟨us, hus⟩ : ∃ us, Hid (Hm.pad ks 54 ++ (Ot.txSecret ++ [i]) = us) := ⟨_, rfl⟩
              obtain ⟨r, hr⟩ : ∃ r, Hid (str (Sh.sum us) = r) := ⟨_, rfl⟩
              obtain ⟨bi, hbi⟩ : ∃ bi, Hid (B i = bi) := ⟨_, rfl⟩
              have hi127 : i < 127 := by have := hn127'.out; omega
              have f1 := ht1.out
              have f2 : t1 ++ u = z := by
                rw [← hz.out, ← hA.out, ← ht1.out, ← hu.out, ← hPI.out]
                show (str _ ++ str Ot.txSecret) ++ str [i] = str (_ ++ (Ot.txSecret ++ [i]))
                rw [str_add, str_add, List.append_assoc]
              have f3 : PO ++ r = bi := by
                rw [← hbi.out, ← hB.out, ← hr.out, ← hus.out, ← hPO.out, str_add]; rfl
              have hzus : z = str us := by rw [← hz.out, ← hA.out, ← hus.out]; rfl
              have hu256 : ∀ x ∈ us, x < 256 := by
                rw [← hus.out]; intro x hx
                rcases List.mem_append.1 hx with h | h
                · exact Hm.pad_lt (by rw [← hk.out]; exact ofStr_lt sd) (by decide) x h
                · rcases List.mem_append.1 h with h | h
                  · exact (by decide : ∀ x ∈ Ot.txSecret, x < 256) x h
                  · simp at h; omega
              have hul : us.length = 71 := by rw [← hus.out, List.length_append, List.length_append, Hm.pad_len]; rfl
              have hof : Hid (ofStr z = us) := by show _ = _; rw [hzus, ofStr_str _ hu256]
              have y1 : PI.size = 64 := by rw [← hPI.out, str_size, Hm.pad_len]
              have y2 : PO.size = 64 := by rw [← hPO.out, str_size, Hm.pad_len]
              have y3 : t1.size = 70 := by rw [← ht1.out, ByteArray.size_append, y1]; rfl
              have y4 : u.size = 1 := by rw [← hu.out, str_size]; rfl
              have y5 : r.size = 32 := by rw [← hr.out, str_size]; exact Sh.sum_len _
              have y6 : z.size = 71 := by rw [hzus, str_size, hul]
              have y7 : bi.size = 96 := by rw [← f3, ByteArray.size_append]; omega
              have g1 : ¬ (9223372036854775807 : Nat) < PI.size + 6 := by omega
              have g2 : ¬ (9223372036854775807 : Nat) < t1.size + u.size := by omega
              have g3 : ¬ (9223372036854775807 : Nat) < PO.size + r.size := by omega
              have kc := one_conv i
              simp only [hu.out] at kc
              have kw : IntKind.u8.wrap (i : Int) = (i : Int) := by rw [IntKind.wrap_u8]; omega
              have t128 : ¬ (128 : Int) ≤ (i : Int) := by omega
              obtain ⟨cp, w6, hcv, hby, hb6, hc6, hlt6⟩ := conv_to z (wr.alloc (.cells #[.int .u8 (i : Int)] 5))
              rw [hof.out] at hby
              have hby' := hidIt (show Bytes w6 (some ⟨wr.heap.size + 1, 0, none⟩) us by simpa using hby)
              have hzl : Hid (z.size = us.length) := by show _ = _; rw [← hof.out, ofStr_len]
              have hu256' := hidIt hu256
              have hul' := hidIt hul
              have hb6' := hidIt hb6
              have hS2 := hidIt (hS1.out.begin (by rw [hz.out]; omega) (by rw [hbi.out]; omega))
              rw [hz.out, hbi.out] at hS2
              have hbj' := hidIt hbj
              clear ht1 hu hz hus hbi hzus hu256 hul hof y1 y2 y3 y4 y5 y6 y7 hPI hPO hbj hS1 hby hb6 hc6 hlt6
              go_wp2_with (fail)
              refine (refsum_at' _ z.size cp us hzl.out hu256'.out (by have := hul'.out; omega) _ hby'.out (fun h => by cases h)).mono ?_
              rintro e w8 ⟨rfl, hb8⟩
              rw [hr.out]
              have hbA : Below w8.heap.size w8 (w8.alloc (.cells #[.string z, .string bi] 9)) := (Below.refl _ _).alloc (Nat.le_refl _) _
              have H8 := below_then hbj'.out (below_then ((Below.refl wr.heap.size wr).alloc (Nat.le_refl _) (.cells #[.int .u8 (i : Int)] 5)) (below_then hb6'.out (below_then hb8 hbA)))
              have own8 := hidIt (own_belowS ownq.out H8)
              have hb8' := hidIt (below_then hbq.out H8)
              clear hbA H8 hb8 kc hcv f1 f2 g1 g2 kw t128 hby' hzl hu256' hul' hb6'
              go_wp2_with (at_builtin; refine wpList_snoc_at _ rfl _ _ rfl wo.heap.size _ k L rfl own8.out w8.heap.size 2 [z, bi] rfl rfl (two_new w8 z bi) (by have := hS2.out.ln; have := hkL.out; simp at *; omega) (by omega) hb8'.out.size ?_)
              intro v9 w9 own9 hg9 hat9
              have hb9 := hidIt (hb8'.out.grown hg9 hb8'.out.size (fun p hp => (own8.out.lt p hp).1))
              have own9' := hidIt own9
              clear hg9 hat9 own9 own8 hb8' hbq ownq hbj'
              go_wp2_with (fail)
              go_loopw [19, 9, 12] (fun jv v xv wr => ∃ (j k : Nat) (L : List ByteArray), jv = .int .i64 (j : Int) ∧ j ≤ l ∧ Hid (k = L.length) ∧ Hid (S1 A B I l i (j + 1) L) ∧ xv = .string (X i j) ∧ wr.ownsRow wo.heap.size 9 1 v k (svals L) ∧ Below wo.heap.size wo wr) (fun jv _ _ _ => l - (intOf jv).toNat)
              case atStart => exact ⟨0, k + 2, L ++ [z, bi], rfl, by omega, by have := hkL.out; show _ = _; simp; omega, hS2, by rw [hX0.out, hxi.out], own9'.out, hb9.out⟩
              case round =>
                obtain ⟨j, k4, L4, rfl, hj, hk4, hS4, rfl, hown4, hb4⟩ := hrel
                have e0 : wr.cell? ⟨w.heap.size, 0, none⟩ = some (.int .i64 (b : Int)) := (hb4.cell (p := ⟨w.heap.size, 0, none⟩) (bytes_lt po.out.c0)).trans po.out.c0
                have e1' : wr.cell? ⟨w.heap.size, 1, none⟩ = some (.int .i64 (s : Int)) := (hb4.cell (p := ⟨w.heap.size, 1, none⟩) (bytes_lt po.out.c1)).trans po.out.c1
                have own4' := hidIt hown4
                have hb4' := hidIt hb4
                clear hown4 hb4
                obtain ⟨x4, hx4⟩ : ∃ x, Hid (X i j = x) := ⟨_, rfl⟩
                rw [hx4.out]
                by_cases hjl : j < l
                · have tj : (j : Int) < (l : Int) := by omega
                  obtain ⟨y, hy⟩ : ∃ y, Hid (I i j = y) := ⟨_, rfl⟩
                  have dI : Hid (∀ W, Calls Tryd.prog 52 #[.int .i64 (i : Int), .int .i64 (j : Int), .string x4] W fun e w' => e = .returned (.string y) ∧ Below W.heap.size W w') := fun W => by
                    have := dI1.out i j W hlt hjl; rwa [hx4.out, hy.out] at this
                  have dC : Hid (∀ W, Calls Tryd.prog 26 #[.int .i64 (i : Int), .int .i64 (j : Int), .int .i64 ((j : Int) + 1), .string x4] W fun e w' => e = .returned (.string (X i (j + 1))) ∧ Below W.heap.size W w') := fun W => by
                    have := dC1.out i j W hlt hjl; rwa [hx4.out] at this
                  have hS5 := hidIt (hS4.out.step (zI.out i j))
                  rw [hy.out] at hS5
                  clear hy hx4
                  go_wp2_with (fail)
                  refine (dB.out _).mono ?_
                  rintro e w5 ⟨rfl, hb5⟩
                  have own5 := hidIt (own_belowS own4'.out hb5)
                  have hb5' := hidIt (below_then hb4'.out hb5)
                  clear hb5 own4' hb4' e0 e1'
                  go_wp2_with (fail)
                  refine (dI.out _).mono ?_
                  rintro e w6 ⟨rfl, hb6⟩
                  have hbA : Below w6.heap.size w6 (w6.alloc (.cells #[.string y] 9)) := (Below.refl _ _).alloc (Nat.le_refl _) _
                  have own6 := hidIt (own_belowS own5.out (below_then hb6 hbA))
                  have hb6' := hidIt (below_then hb5'.out (below_then hb6 hbA))
                  clear hb6 hbA own5 hb5'
                  go_wp2_with (at_builtin; refine wpList_snoc_at _ rfl _ _ rfl wo.heap.size _ k4 L4 rfl own6.out w6.heap.size 1 [y] rfl rfl (one_new w6 y) (by have := hS5.out.ln; have := hk4.out; simp at *; omega) (by omega) hb6'.out.size ?_)
                  intro v7 w7 own7 hg7 hat7
                  have hb7 := hidIt (hb6'.out.grown hg7 hb6'.out.size (fun p hp => (own6.out.lt p hp).1))
                  have own7' := hidIt own7
                  clear own7 hg7 hat7 own6 hb6'
                  go_wp2_with (fail)
                  refine (dC.out _).mono ?_
                  rintro e w8 ⟨rfl, hb8⟩
                  have own8 := hidIt (own_belowS own7'.out hb8)
                  have hb8' := hidIt (below_then hb7.out hb8)
                  clear hb8 own7' hb7
                  go_wp2_with (fail)
                  go_roundw
                  case rel => exact ⟨j + 1, k4 + 1, L4 ++ [y], by go_num, by omega, by have := hk4.out; show _ = _; simp; omega, hS5, rfl, own8.out, hb8'.out⟩
                  case measure => simp [intOf]; omega
                · have tj : ¬ (j : Int) < (l : Int) := by omega
                  have hjl2 : Hid (j = l) := by show _ = _; omega
                  have hS5 : Hid (S1 A B I l (i + 1) 0 L4) := by
                    have := hS4.out
                    rw [hjl2.out] at this
                    exact this.next hl255
                  clear hx4 hS4
                  go_wp2_with (fail)
                  refine (dB.out _).mono ?_
                  rintro e w5 ⟨rfl, hb5⟩
                  have own5 := hidIt (own_belowS own4'.out hb5)
                  have hb5' := hidIt (below_then hb4'.out hb5)
                  clear hb5 own4' hb4' e0 e1'
                  go_wp2_with (fail)
                  go_roundw
                  case rel => exact ⟨i + 1, k4, L4, by go_num, by omega, hk4, hS5, own5.out, hb5'.out⟩
                  case measure => simp [intOf]; omega
    · have hin : Hid (i = n) := by show _ = _; omega
      have e0 : wr.cell? ⟨w.heap.size, 0, none⟩ = some (.int .i64 (b : Int)) := (hb.cell (p := ⟨w.heap.size, 0, none⟩) (bytes_lt po.out.c0)).trans po.out.c0
      have e1' : wr.cell? ⟨w.heap.size, 1, none⟩ = some (.int .i64 (s : Int)) := (hb.cell (p := ⟨w.heap.size, 1, none⟩) (bytes_lt po.out.c1)).trans po.out.c1
      have hS0 : Hid (S1 A B I l n 0 L) := by have := hS1.out; rw [hin.out] at this; exact this
      have hown' := hidIt hown
      have hb' := hidIt hb
      clear hS1 hown hb dI1 dC1 hX0 hget zI hkb hSTl
      go_wp2_with (fail)
      refine (dD.out _).mono ?_
      rintro e wd ⟨⟨ad, cd, rfl, hI, hcd, hfr⟩, hbd⟩
      obtain ⟨bd, od, rfl, q0⟩ := hI 0 (by omega)
      have hfr0 : wr.heap.size ≤ bd := hfr _ rfl
      have hP0 := hidIt (P2.mk (ad := some ⟨bd, od, none⟩) hkL.out (own_belowS hown'.out hbd) (below_then hb'.out hbd) hI (fun x hx e => by
        cases hx
        have h1 := (hown'.out.lt _ e).2
        exact absurd h1 (Nat.not_lt.2 hfr0)) (fun x hx => by cases hx; exact bytes_lt q0))
      clear hI hcd hfr hfr0 q0 hbd hown' hb' e0 e1' dD
      go_wp2_with (fail)
      go_loopw [126, 9] (fun iv v wr => ∃ (i k : Nat) (M : List ByteArray), iv = .int .i64 (i : Int) ∧ i ≤ n ∧ Hid (S2 L J F l i 0 M) ∧ P2 wo.heap.size wo (some ⟨bd, od, none⟩) n F v k M wr) (fun iv _ _ => n - (intOf iv).toNat)
      case atStart => exact ⟨0, k, L, rfl, by omega, S2.zero J F l hS0.out.sz, hP0.out⟩
      case round =>
        obtain ⟨i, k2, M, rfl, hi, hM, hP⟩ := hrel
        by_cases hlt : i < n
        · obtain ⟨b1, o1, rfl, q1⟩ := hPo.out i (by have := hsl.out; omega)
          have c1 : wr.cell? ⟨b1, o1 + i, none⟩ = some (.string (ss.getD i ByteArray.empty)) := (hP.bel.cell (p := ⟨b1, o1 + i, none⟩) (bytes_lt q1)).trans q1
          obtain ⟨_, _, hh, q2⟩ := hP.dg i hlt
          cases hh
          obtain ⟨x, hxi⟩ : ∃ x, Hid (ss.getD i ByteArray.empty = x) := ⟨_, rfl⟩
          obtain ⟨d, hd⟩ : ∃ d, Hid (F i = d) := ⟨_, rfl⟩
          have hdl : d ≤ l := by rw [← hd.out]; exact hFl.out i
          rw [hxi.out] at c1
          have c2 : wr.cell? ⟨bd, od + i, none⟩ = some (.int .i64 (d : Int)) := by rw [← hd.out]; exact q2
          have hP' := hidIt hP
          have hM1 := hidIt hM.out.start
          rw [hd.out] at hM1
          obtain ⟨wp, rfl⟩ : ∃ wp : World, wp = wr := ⟨_, rfl⟩
          clear hP q1 q2 hM hP0
          go_wp2_with (fail)
          go_loopw [23, 9, 22] (fun jv v xv wr => ∃ (j k : Nat) (M : List ByteArray), jv = .int .i64 (j : Int) ∧ d ≤ j ∧ j ≤ l ∧ Hid (S2 L J F l i j M) ∧ xv = .string (Y i j) ∧ P2 wo.heap.size wo (some ⟨bd, od, none⟩) n F v k M wr) (fun jv _ _ _ => l - (intOf jv).toNat)
          case atStart => exact ⟨d, k2, M, rfl, by omega, hdl, hM1, by rw [← hd.out, hY0.out, hxi.out], hP'.out⟩
          case round =>
            obtain ⟨j, k4, M4, rfl, hdj, hj, hM4, rfl, hP4⟩ := hrel
            have e0 : wr.cell? ⟨w.heap.size, 0, none⟩ = some (.int .i64 (b : Int)) := (hP4.bel.cell (p := ⟨w.heap.size, 0, none⟩) (bytes_lt po.out.c0)).trans po.out.c0
            have e1' : wr.cell? ⟨w.heap.size, 1, none⟩ = some (.int .i64 (s : Int)) := (hP4.bel.cell (p := ⟨w.heap.size, 1, none⟩) (bytes_lt po.out.c1)).trans po.out.c1
            have hP4' := hidIt hP4
            clear hP4
            obtain ⟨x4, hx4⟩ : ∃ x, Hid (Y i j = x) := ⟨_, rfl⟩
            rw [hx4.out]
            by_cases hjl : j < l
            · have tj : (j : Int) < (l : Int) := by omega
              obtain ⟨y, hy⟩ : ∃ y, Hid (J i j = y) := ⟨_, rfl⟩
              have dI : Hid (∀ W, Calls Tryd.prog 52 #[.int .i64 (i : Int), .int .i64 (j : Int), .string x4] W fun e w' => e = .returned (.string y) ∧ Below W.heap.size W w') := fun W => by
                have := dI3.out i j W hlt hjl; rwa [hx4.out, hy.out] at this
              have dC : Hid (∀ W, Calls Tryd.prog 26 #[.int .i64 (i : Int), .int .i64 (j : Int), .int .i64 ((j : Int) + 1), .string x4] W fun e w' => e = .returned (.string (Y i (j + 1))) ∧ Below W.heap.size W w') := fun W => by
                have := dC3.out i j W hlt (by rw [hd.out]; exact hdj) hjl; rwa [hx4.out] at this
              have hM5 := hidIt (hM4.out.step (zJ.out i j hlt))
              rw [hy.out] at hM5
              clear hy hx4
              go_wp2_with (fail)
              refine (dB.out _).mono ?_
              rintro e w5 ⟨rfl, hb5⟩
              have hP5 := hidIt (hP4'.out.next (hP4'.out.size (Nat.le_refl _)) hb5)
              clear hb5 hP4' e0 e1'
              go_wp2_with (fail)
              refine (dI.out _).mono ?_
              rintro e w6 ⟨rfl, hb6⟩
              have hbA : Below w6.heap.size w6 (w6.alloc (.cells #[.string y] 9)) := (Below.refl _ _).alloc (Nat.le_refl _) _
              have hP6 := hidIt (hP5.out.next (hP5.out.size (Nat.le_refl _)) (below_then hb6 hbA))
              clear hb6 hbA hP5
              go_wp2_with (at_builtin; refine wpList_snoc_at _ rfl _ _ rfl wo.heap.size _ k4 M4 rfl hP6.out.own w6.heap.size 1 [y] rfl rfl (one_new w6 y) (by have := hP6.out.len; have := hM5.out.ln; have := hS0.out.ln; simp at *; omega) (by omega) (hP6.out.size (Nat.le_refl _)) ?_)
              intro v7 w7 own7 hg7 hat7
              have hP7 := hidIt (hP6.out.grow (hP6.out.size (Nat.le_refl _)) (by have := hP6.out.len; simp; omega) own7 hg7 (by simpa using hat7))
              clear own7 hg7 hat7 hP6
              go_wp2_with (fail)
              refine (dC.out _).mono ?_
              rintro e w8 ⟨rfl, hb8⟩
              have hP8 := hidIt (hP7.out.next (hP7.out.size (Nat.le_refl _)) hb8)
              clear hb8 hP7
              go_wp2_with (fail)
              go_roundw
              case rel => exact ⟨j + 1, k4 + 1, M4 ++ [y], by go_num, by omega, by omega, hM5, rfl, hP8.out⟩
              case measure => simp [intOf]; omega
            · have tj : ¬ (j : Int) < (l : Int) := by omega
              have hM5 := hidIt (hM4.out.next (by omega) (by omega))
              clear hx4 hM4
              go_wp2_with (fail)
              refine (dB.out _).mono ?_
              rintro e w5 ⟨rfl, hb5⟩
              have hP5 := hidIt (hP4'.out.next (hP4'.out.size (Nat.le_refl _)) hb5)
              clear hb5 hP4' e0 e1'
              go_wp2_with (fail)
              go_roundw
              case rel => exact ⟨i + 1, k4, M4, by go_num, by omega, hM5, hP5.out⟩
              case measure => simp [intOf]; omega
        · have hin2 : Hid (i = n) := by show _ = _; omega
          have hM2 : Hid (S2 L J F l n 0 M) := by have := hM.out; rw [hin2.out] at this; exact this
          have hG : Hid (SuG A B I J F l n e1 e2 (M ++ [e1, e2])) := S2.done hS0.out hM2.out (by have := hn127'.out; omega) z1 z2
          have D0 : DQ wo w.heap.size (b : Int) (s : Int) (some ⟨bd, od, none⟩) n F wr := ⟨⟨(hP.bel.cell (p := ⟨w.heap.size, 0, none⟩) (bytes_lt po.out.c0)).trans po.out.c0, (hP.bel.cell (p := ⟨w.heap.size, 1, none⟩) (bytes_lt po.out.c1)).trans po.out.c1, hP.bel⟩, hP.dg⟩
          have hP' := hidIt hP
          have mk := makeLenI n (by have := hn127'.out; omega)
          have e0 := D0.ps.c0
          have e1' := D0.ps.c1
          obtain ⟨a9, c9, rfl, hc9, _, _⟩ := owned_strs hP'.out.own hP'.out.len
          have D3' := hidIt (D0.new (.cells (rowA .i64 (fun _ => 0) n n) 3)).drew
          clear hM hM2 hS0 hP0 z1 z2 dI3 dC3 hY0 zJ hFl dB D0 hc9
          go_wp2_with (fail)
          refine wp_region_held_drew (S := (fun w' => w'.cell? ⟨w.heap.size, 0, none⟩ = some (.int .i64 (b : Int)) ∧ w'.cell? ⟨w.heap.size, 1, none⟩ = some (.int .i64 (s : Int)))) (by kernel_rfl) ⟨e0, e1'⟩ (fun hHeld => ?_)
          refine wpAnyH_take_at (i := 0) (some 156) (.slice a9 M.length c9) rfl rfl (by kernel_rfl) (by kernel_rfl) (by kernel_rfl) (fun _ _ _ h => h) (Or.inl ⟨by rfl, ?_⟩) hHeld ?_
          · (intro W hSw; (try dsimp only at hSw); go_simp)
          simp only [Act.put, List.setIfInBounds_toArray, List.set_cons_zero, List.set_cons_succ]
          refine wpAnyH_take_at (i := 1) (some 157) (.agg #[.int .i64 (b : Int), .int .i64 (s : Int)]) rfl rfl (by kernel_rfl) (by kernel_rfl) (by kernel_rfl) (fun _ _ _ h => h) (Or.inl ⟨by rfl, ?_⟩) hHeld ?_
          · (intro W hSw; (try dsimp only at hSw); go_simp)
          simp only [Act.put, List.setIfInBounds_toArray, List.set_cons_zero, List.set_cons_succ]
          refine wpAnyH_take_at (i := 2) (some 158) (.slice ast n cst) rfl rfl (by kernel_rfl) (by kernel_rfl) (by kernel_rfl) (fun _ _ _ h => h) (Or.inl ⟨by rfl, ?_⟩) hHeld ?_
          · (intro W hSw; (try dsimp only at hSw); go_simp)
          simp only [Act.put, List.setIfInBounds_toArray, List.set_cons_zero, List.set_cons_succ]
          refine wpAnyH_take_at (i := 3) (some 159) (.int .i64 (n : Int)) rfl rfl (by kernel_rfl) (by kernel_rfl) (by kernel_rfl) (fun _ _ _ h => h) (Or.inl ⟨by rfl, ?_⟩) hHeld ?_
          · (intro W hSw; (try dsimp only at hSw); go_simp)
          simp only [Act.put, List.setIfInBounds_toArray, List.set_cons_zero, List.set_cons_succ]
          refine wpAnyH_take_at (i := 5) (some 161) (.slice ast n cst) rfl rfl (by kernel_rfl) (by kernel_rfl) (by kernel_rfl) (fun _ _ _ h => h) (Or.inl ⟨by rfl, ?_⟩) hHeld ?_
          · (intro W hSw; (try dsimp only at hSw); go_simp)
          simp only [Act.put, List.setIfInBounds_toArray, List.set_cons_zero, List.set_cons_succ]
          refine wpAnyH_take_at (i := 7) (some 163) (.agg #[.int .i64 (b : Int), .int .i64 (s : Int)]) rfl rfl (by kernel_rfl) (by kernel_rfl) (by kernel_rfl) (fun _ _ _ h => h) (Or.inl ⟨by rfl, ?_⟩) hHeld ?_
          · (intro W hSw; (try dsimp only at hSw); go_simp)
          simp only [Act.put, List.setIfInBounds_toArray, List.set_cons_zero, List.set_cons_succ]
          refine wpAnyH_take_at (i := 8) (some 164) (.slice (some ⟨bd, od, none⟩) n cd) rfl rfl (by kernel_rfl) (by kernel_rfl) (by kernel_rfl) (fun _ _ _ h => h) (Or.inl ⟨by rfl, ?_⟩) hHeld ?_
          · (intro W hSw; (try dsimp only at hSw); go_simp)
          simp only [Act.put, List.setIfInBounds_toArray, List.set_cons_zero, List.set_cons_succ]
          refine wpAnyH_take_at (i := 9) (some 165) (.slice a n cap) rfl rfl (by kernel_rfl) (by kernel_rfl) (by kernel_rfl) (fun _ _ _ h => h) (Or.inl ⟨by rfl, ?_⟩) hHeld ?_
          · (intro W hSw; (try dsimp only at hSw); go_simp)
          simp only [Act.put, List.setIfInBounds_toArray, List.set_cons_zero, List.set_cons_succ]
          refine wpAnyH_only (i := 4) (by kernel_rfl) rfl (by rfl) (fun K hK => ?_)
          go_simp
          have hHeld2 : (fun w' => w'.cell? ⟨w.heap.size, 0, none⟩ = some (.int .i64 (b : Int)) ∧ w'.cell? ⟨w.heap.size, 1, none⟩ = some (.int .i64 (s : Int))) (wr.alloc (.cells (rowA .i64 (fun _ => 0) n n) 3)).drew := ⟨D3'.out.ps.c0, D3'.out.ps.c1⟩
          refine hK.out _ _ hHeld2 ?_
          try simp only [Act.put, List.setIfInBounds_toArray, List.set_cons_zero, List.set_cons_succ]
          refine wpAnyH_only (i := 6) (by kernel_rfl) rfl (by rfl) (fun K2 hK2 => ?_)
          go_simp
          (with_reducible refine Calls.mono (dE1.out _ _ _ _ ?_ ?_) ?_)
          · exact (ints_zero wr n).below (Below.refl _ _).drew
          · exact hSo.out.below D3'.out.bel
          rintro e w7 ⟨rfl, hb7⟩
          have D7 := hidIt (D3'.out.behind hb7)
          have hHeld3 : (fun w' => w'.cell? ⟨w.heap.size, 0, none⟩ = some (.int .i64 (b : Int)) ∧ w'.cell? ⟨w.heap.size, 1, none⟩ = some (.int .i64 (s : Int))) w7 := ⟨D7.out.ps.c0, D7.out.ps.c1⟩
          refine hK2.out _ _ hHeld3 ?_
          try simp only [Act.put, List.setIfInBounds_toArray, List.set_cons_zero, List.set_cons_succ]
          refine wpAnyH_only (i := 10) (by kernel_rfl) rfl (by rfl) (fun K3 hK3 => ?_)
          go_simp
          (with_reducible refine Calls.mono (dE2.out _ _ _ ?_ ?_) ?_)
          · exact D7.out.dg
          · exact hPo.out.below D7.out.bel
          rintro e w8 ⟨rfl, hb8⟩
          have D8 := hidIt (D7.out.behind hb8)
          have hHeld4 : (fun w' => w'.cell? ⟨w.heap.size, 0, none⟩ = some (.int .i64 (b : Int)) ∧ w'.cell? ⟨w.heap.size, 1, none⟩ = some (.int .i64 (s : Int))) w8 := ⟨D8.out.ps.c0, D8.out.ps.c1⟩
          refine hK3.out _ _ hHeld4 ?_
          try simp only [Act.put, List.setIfInBounds_toArray, List.set_cons_zero, List.set_cons_succ]
          refine wpAnyH_only (i := 11) (by kernel_rfl) rfl (by rfl) (fun K4 hK4 => ?_)
          go_simp
          have hbA : Below w8.heap.size w8 (w8.alloc (.cells #[.string e1, .string e2] 9)) := (Below.refl _ _).alloc (Nat.le_refl _) _
          have H8 := below_then ((Below.refl wr.heap.size wr).alloc (Nat.le_refl _) (.cells (rowA .i64 (fun _ => 0) n n) 3)).drew (below_then hb7 (below_then hb8 hbA))
          have P8 := hidIt (hP'.out.next (hP'.out.size (Nat.le_refl _)) H8)
          have D9 := hidIt (D8.out.next hbA)
          have hHeld5 : (fun w' => w'.cell? ⟨w.heap.size, 0, none⟩ = some (.int .i64 (b : Int)) ∧ w'.cell? ⟨w.heap.size, 1, none⟩ = some (.int .i64 (s : Int))) (w8.alloc (.cells #[.string e1, .string e2] 9)) := ⟨D9.out.ps.c0, D9.out.ps.c1⟩
          refine hK4.out _ _ hHeld5 ?_
          try simp only [Act.put, List.setIfInBounds_toArray, List.set_cons_zero, List.set_cons_succ]
          refine wpAnyH_only (i := 12) (by kernel_rfl) rfl (by rfl) (fun K5 hK5 => ?_)
          refine wp_snoc_at _ _ _ rfl wo.heap.size _ k2 M rfl P8.out.own w8.heap.size 2 [e1, e2] rfl rfl (two_new w8 e1 e2) (by have := P8.out.len; have := hG.out.ln; simp at *; omega) (by omega) (P8.out.size (Nat.le_refl _)) ?_
          intro v12 w12 own12 hg12 hat12
          have P12 := hidIt (P8.out.grow (k' := k2 + 2) (P8.out.size (Nat.le_refl _)) (by have := P8.out.len; simp; omega) own12 hg12 (by first | exact hat12 | simpa using hat12))
          have hHeld6 : (fun w' => w'.cell? ⟨w.heap.size, 0, none⟩ = some (.int .i64 (b : Int)) ∧ w'.cell? ⟨w.heap.size, 1, none⟩ = some (.int .i64 (s : Int))) w12 := ⟨(P12.out.bel.cell (p := ⟨w.heap.size, 0, none⟩) (bytes_lt po.out.c0)).trans po.out.c0, (P12.out.bel.cell (p := ⟨w.heap.size, 1, none⟩) (bytes_lt po.out.c1)).trans po.out.c1⟩
          refine hK5.out _ _ hHeld6 ?_
          try simp only [List.getElem_toArray, List.getElem_cons_succ, List.getElem_cons_zero, Act.put, List.setIfInBounds_toArray, List.set_cons_zero, List.set_cons_succ]
          obtain ⟨a12, c12, rfl, hc12, hst12, _⟩ := owned_strs P12.out.own P12.out.len
          clear hHeld hHeld2 hHeld3 hHeld4 hHeld5 hK hK2 hK3 hK4 hK5 hb7 hb8 hbA H8 own12 hg12 hat12
          refine wpAnyH_take_at (i := 13) (some 8) (.slice a12 (M ++ [e1, e2]).length c12) rfl rfl (by kernel_rfl) (by kernel_rfl) (by kernel_rfl) (fun _ _ _ h => h) (Or.inl ⟨by rfl, ?_⟩) hHeld6 ?_
          · (intro W hSw; (try dsimp only at hSw); go_simp)
          simp only [Act.put, List.setIfInBounds_toArray, List.set_cons_zero, List.set_cons_succ]
          have HB := hidIt (below_then po.out.bel P12.out.bel)
          have hst13 := hidIt hst12
          clear hHeld6 hst12 P8 P12 D3' D7 D8 D9 dE1 dE2
          refine wpAnyH_done (by kernel_rfl) ?_ _
          go_wp2
          go_ret
          exact ⟨⟨a12, _, c12, M ++ [e1, e2], rfl, by simp, hst13.out, hG.out⟩, HB.out⟩
end Go.Proofs.YtegfbmekpmdcaaaDoor
