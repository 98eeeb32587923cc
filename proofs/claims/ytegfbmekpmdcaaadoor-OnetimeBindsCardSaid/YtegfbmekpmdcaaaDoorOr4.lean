import Derived.Test.YtegfbmekpmdcaaaDoorOr3
import Derived.Deep.RegionLaw
namespace Go.Proofs.YtegfbmekpmdcaaaDoor
open Go.RowKit
/-- what the reference's Start returns -/
def RSt (e : Ending) (w' : World) (L : List ByteArray) (n : Nat) : Prop := ∃ a cap, e = .returned (.slice a n cap) ∧ Strs w' a L ∧ n ≤ cap
set_option maxRecDepth 100000 in
set_option maxHeartbeats 1000000 in
theorem refstart_any (b s : Nat) (ho : Ot.okB b s = true) (sd : ByteArray) (ks : List Nat) (hk : Hid (ofStr sd = ks)) (hkl : ks.length ≤ 1200) (w : World) :
    Calls Tryd.prog 56 #[.agg #[.int .i64 (b : Int), .int .i64 (s : Int)], .string sd] w fun e w' => RSt e w' ((List.range (Ot.tot b s)).map (Ot.sec ks)) (Ot.tot b s) ∧ Below w.heap.size w w' := by
  have hn9 := (Ot.tot_bd b s ho).2
  have d1 : Hid (∀ W, Calls Tryd.prog 19 #[.agg #[.int .i64 (b : Int), .int .i64 (s : Int)]] W fun e w' => e = .returned (.int .i64 (Ot.mn b s : Int)) ∧ Below W.heap.size W w') := fun W => refmain_any b s ho W
  have d3 : Hid (∀ W, Calls Tryd.prog 20 #[.agg #[.int .i64 (b : Int), .int .i64 (s : Int)]] W fun e w' => e = .returned (.int .i64 (Ot.cd b s : Int)) ∧ Below W.heap.size W w') := fun W => refcheck_any b s ho W
  have dS : Hid (∀ (i : Nat) W, i ≤ 999 → Calls Tryd.prog 25 #[.string sd, .int .i64 (i : Int)] W fun e w' => e = .returned (.string (Ot.sec ks i)) ∧ Below W.heap.size W w') := fun i W hi => refsecret_any sd ks hk hkl i hi W
  obtain ⟨n, hn⟩ : ∃ n, Hid (Ot.tot b s = n) := ⟨_, rfl⟩
  obtain ⟨c, hcd⟩ : ∃ c, Hid (Ot.cd b s = c) := ⟨_, rfl⟩
  obtain ⟨m, hmn⟩ : ∃ m, Hid (Ot.mn b s = m) := ⟨_, rfl⟩
  have hnm : (m : Int) + (c : Int) = (n : Int) := by rw [← hn.out, ← hmn.out, ← hcd.out]; unfold Ot.tot; push_cast; rfl
  rw [hn.out] at hn9 ⊢
  rw [hcd.out] at d3
  rw [hmn.out] at d1
  have hwr : IntKind.i64.wrap (n : Int) = (n : Int) := IntWalk.i64_in _ (by omega)
  have p0 := rs_new w (b : Int) (s : Int)
  obtain ⟨w1, hw1⟩ : ∃ w1, Hid (w.alloc (.cells #[.int .i64 (b : Int), .int .i64 (s : Int)] 23) = w1) := ⟨_, rfl⟩
  obtain ⟨G, hG⟩ : ∃ G, Hid (w.heap.size = G) := ⟨_, rfl⟩
  have hwG : Hid (w.heap.size ≤ G + 1) := by show _ ≤ _; rw [← hG.out]; omega
  rw [hw1.out, hG.out] at p0
  clear hn hcd hmn hk ho
  go_enter Tryd.func56, Tryd.ntmps56
  go_wp2_with (fail)
  rw [hw1.out]
  try rw [hG.out]
  clear hw1
  go_loopw [6, 5] (fun i v wr => ∃ k : Nat, i = .int .i64 (k : Int) ∧ k ≤ n ∧ PS w G (b : Int) (s : Int) wr ∧ wr.ownsRow (G + 1) 9 1 v k (svals ((List.range k).map (Ot.sec ks)))) (fun i _ _ => n - (intOf i).toNat)
  case atStart => exact ⟨0, rfl, by omega, p0, ⟨rfl, .inl ⟨rfl, rfl⟩⟩⟩
  case round =>
    obtain ⟨k, rfl, hk, hS, hown⟩ := hrel
    clear p0
    have e0 := hS.c0
    have e1 := hS.c1
    have hown' := hidIt hown
    clear hown
    by_cases hlt : k < n
    all_goals
      go_wp2
      go_region_held3 (fun W' => PS w G (b : Int) (s : Int) W' ∧ W'.cell? ⟨G, 0, none⟩ = some (.int .i64 (b : Int)) ∧ W'.cell? ⟨G, 1, none⟩ = some (.int .i64 (s : Int)))
        (first
          | exact PS.all (by assumption)
          | (go_split_ands; exact PS.all (by assumption))
          | (go_split_ands; exact PS.all (PS.drew (by assumption)))
          | (go_split_ands; exact PS.all (PS.behind (by assumption) (by assumption))))
        (first
          | (go_at_call 19; (with_reducible refine Calls.mono (d1.out _) ?_); rintro e w7 ⟨rfl, hb7⟩)
          | (go_at_call 20; (with_reducible refine Calls.mono (d3.out _) ?_); rintro e w8 ⟨rfl, hb8⟩))
      go_split_ands
      have hS8 : PS w G (b : Int) (s : Int) w8 := by assumption
      have own8 := hidIt (own_belowS (own_belowS (own_belowS hown'.out (Below.refl _ _).drew) hb7) hb8)
    · clear hS e0 e1 hb7 hb8 hown'
      obtain ⟨x, hx⟩ : ∃ x, Hid (Ot.sec ks k = x) := ⟨_, rfl⟩
      have dSk : Hid (∀ W, Calls Tryd.prog 25 #[.string sd, .int .i64 (k : Int)] W fun e w' => e = .returned (.string x) ∧ Below W.heap.size W w') := fun W => hx.out ▸ dS.out k W (by omega)
      go_wp2_with (fail)
      refine (dSk.out _).mono ?_
      rintro e w9 ⟨rfl, hb9⟩
      have hbA : Below w9.heap.size w9 (w9.alloc (.cells #[.string x] 9)) := (Below.refl _ _).alloc (Nat.le_refl _) _
      have p9 := hS8.next hb9
      have own9 := hidIt (own_belowS (own_belowS own8.out hb9) hbA)
      have p10 := p9.next hbA
      have hsz9 := hidIt (show G + 1 ≤ (w9.alloc (.cells #[.string x] 9)).heap.size from bytes_lt p10.c0)
      clear hb9 hbA own8 hS8 p9
      go_wp2_with (at_builtin; refine wpList_snoc_str _ rfl _ _ rfl (G + 1) _ k ((List.range k).map (Ot.sec ks)) rfl own9.out w9.heap.size x rfl (str_new w9 x) (by omega) hsz9.out ?_)
      intro v11 w11 own11 hb11
      have p11 := hidIt (p10.nextB hb11 (by omega) hwG.out)
      rw [← hx.out, ← range_snoc] at own11
      have own11' := hidIt own11
      clear own11 hb11 p10 own9
      go_wp2_with (fail)
      go_roundw
      case rel => exact ⟨k + 1, by go_num, by omega, p11.out, own11'.out⟩
      case measure => simp [intOf]; omega
    · have hkn : Hid (k = n) := by show _ = _; omega
      have own10 := own8.out
      rw [hkn.out] at own10
      obtain ⟨a, cap, rfl, hcap, hst, _⟩ := owned_strs own10 (by simp)
      have hln : ((List.range n).map (Ot.sec ks)).length = n := by simp
      rw [hln] at hcap
      rw [hln]
      have HB := hidIt hS8.bel
      have hst2 := hidIt hst
      clear hS e0 e1 hb7 hb8 hown' own8 hS8 own10 hst hln hkn
      go_wp2_with (fail)
      go_ret
      exact ⟨⟨a, cap, rfl, hst2.out, hcap⟩, HB.out⟩
/-- parameters in the box G, and two cells -/
structure ES (w : World) (G : Nat) (b s : Int) (b1 o1 d b2 o2 : Nat) (x : ByteArray) (W : World) : Prop where
  ps : PS w G b s W
  x1 : W.cell? ⟨b1, o1, none⟩ = some (.int .i64 (d : Int))
  x2 : W.cell? ⟨b2, o2, none⟩ = some (.string x)
theorem ES.next {w W W' : World} {G : Nat} {b s : Int} {b1 o1 d b2 o2 : Nat} {x : ByteArray} (h : ES w G b s b1 o1 d b2 o2 x W) (hb : Below W.heap.size W W') : ES w G b s b1 o1 d b2 o2 x W' :=
  ⟨h.ps.next hb, (hb.cell (p := ⟨b1, o1, none⟩) (bytes_lt h.x1)).trans h.x1, (hb.cell (p := ⟨b2, o2, none⟩) (bytes_lt h.x2)).trans h.x2⟩
theorem ES.drew {w W : World} {G : Nat} {b s : Int} {b1 o1 d b2 o2 : Nat} {x : ByteArray} (h : ES w G b s b1 o1 d b2 o2 x W) : ES w G b s b1 o1 d b2 o2 x W.drew := h.next (Below.refl _ _).drew
theorem ES.behind {w W W' : World} {G : Nat} {b s : Int} {b1 o1 d b2 o2 : Nat} {x : ByteArray} (hb : Below W.heap.size W W') (h : ES w G b s b1 o1 d b2 o2 x W) : ES w G b s b1 o1 d b2 o2 x W' := h.next hb
theorem ES.all {w W : World} {G : Nat} {b s : Int} {b1 o1 d b2 o2 : Nat} {x : ByteArray} (h : ES w G b s b1 o1 d b2 o2 x W) : ES w G b s b1 o1 d b2 o2 x W ∧ W.cell? ⟨G, 0, none⟩ = some (.int .i64 b) ∧ W.cell? ⟨G, 1, none⟩ = some (.int .i64 s) ∧ W.cell? ⟨b1, o1, none⟩ = some (.int .i64 (d : Int)) ∧ W.cell? ⟨b2, o2, none⟩ = some (.string x) := ⟨h, h.ps.c0, h.ps.c1, h.x1, h.x2⟩
def Ot.goE (b : Nat) (F : Nat → Nat) (ss : List ByteArray) (i : Nat) : ByteArray := Ot.chn i (F i) (Ot.las b - F i) (ss.getD i ByteArray.empty)
theorem Ot.rcv_goE (b s : Nat) (F : Nat → Nat) (ss : List ByteArray) : Ot.rcv b s F ss = str (Sh.sum (Ot.endsTo (Ot.goE b F ss) (Ot.tot b s))) := rfl
set_option maxRecDepth 100000 in
set_option maxHeartbeats 1000000 in
theorem refends_any (b s : Nat) (ho : Ot.okB b s = true) (a1 a2 : Option Addr) (n c1 c2 : Nat) (F : Nat → Nat) (ss : List ByteArray) (hn : n = ss.length) (hn9 : n ≤ 999) (hF : ∀ i, i < n → F i ≤ Ot.las b) (h32 : ∀ i, i < n → (ss.getD i ByteArray.empty).size = 32) (w : World) (hI : Ints w a1 n F) (hSt : Strs w a2 ss) :
    Calls Tryd.prog 57 #[.agg #[.int .i64 (b : Int), .int .i64 (s : Int)], .slice a1 n c1, .slice a2 n c2] w fun e w' => e = .returned (.string (str (Ot.endsTo (Ot.goE b F ss) n))) ∧ Below w.heap.size w w' := by
  have d2 : Hid (∀ W, Calls Tryd.prog 43 #[.agg #[.int .i64 (b : Int), .int .i64 (s : Int)]] W fun e w' => e = .returned (.int .i64 ((Ot.las b + 1 : Nat) : Int)) ∧ Below W.heap.size W w') := fun W => refbase_any b s ho W
  have hl255 := (Ot.las_bd b s ho).2.1
  have dC : Hid (∀ i W, i < n → Calls Tryd.prog 26 #[.int .i64 (i : Int), .int .i64 (F i : Int), .int .i64 (Ot.las b : Int), .string (ss.getD i ByteArray.empty)] W fun e w' => e = .returned (.string (Ot.goE b F ss i)) ∧ Below W.heap.size W w') := fun i W hi => refchain_any i (F i) (Ot.las b) (by omega) (hF i hi) hl255 _ (h32 i hi) W
  have hE32 : Hid (∀ i, i < n → (Ot.goE b F ss i).size = 32) := fun i hi => Ot.chn_size _ _ _ _ (h32 i hi)
  obtain ⟨E, hE⟩ : ∃ E, Hid (Ot.goE b F ss = E) := ⟨_, rfl⟩
  obtain ⟨l, hl⟩ : ∃ l, Hid (Ot.las b = l) := ⟨_, rfl⟩
  obtain ⟨p, hp⟩ : ∃ p, Hid (l + 1 = p) := ⟨_, rfl⟩
  rw [hl.out] at d2 dC hl255
  rw [hp.out] at d2
  rw [hE.out] at dC hE32 ⊢
  have hpl : (p : Int) - 1 = (l : Int) := by have := hp.out; omega
  have hwl : IntKind.i64.wrap (l : Int) = (l : Int) := IntWalk.i64_in _ (by omega)
  have hlen : Hid (∀ k, k ≤ n → (Ot.endsTo E k).length = 6 + 32 * k) := fun k hk => Ot.endsTo_len k fun i hi => hE32.out i (by omega)
  have hI' := hidIt hI
  have hS' : Hid (∀ i, i < n → ∃ b off, a2 = some ⟨b, off, none⟩ ∧ w.cell? ⟨b, off + i, none⟩ = some (.string (ss.getD i ByteArray.empty))) := fun i hi => hSt i (by omega)
  have p0 := rs_new w (b : Int) (s : Int)
  obtain ⟨w1, hw1⟩ : ∃ w1, Hid (w.alloc (.cells #[.int .i64 (b : Int), .int .i64 (s : Int)] 23) = w1) := ⟨_, rfl⟩
  obtain ⟨G, hG⟩ : ∃ G, Hid (w.heap.size = G) := ⟨_, rfl⟩
  rw [hw1.out, hG.out] at p0
  have hpub : Hid ((⟨#[112, 117, 98, 108, 105, 99]⟩ : ByteArray) = str (Ot.endsTo E 0)) := rfl
  clear hI hSt hE hl hp hF h32 ho hn
  go_enter Tryd.func57, Tryd.ntmps57
  go_wp2_with (fail)
  rw [hw1.out]
  try rw [hG.out]
  clear hw1
  go_loopw [11, 7] (fun i v wr => ∃ k : Nat, i = .int .i64 (k : Int) ∧ k ≤ n ∧ v = .string (str (Ot.endsTo E k)) ∧ PS w G (b : Int) (s : Int) wr) (fun i _ _ => n - (intOf i).toNat)
  case atStart => exact ⟨0, rfl, by omega, by rw [← hpub.out], p0⟩
  case round =>
    obtain ⟨k, rfl, hk, rfl, hS⟩ := hrel
    clear p0
    obtain ⟨t, ht⟩ : ∃ t, Hid (str (Ot.endsTo E k) = t) := ⟨_, rfl⟩
    have hts : t.size ≤ 40000 := by rw [← ht.out, str_size, hlen.out k hk]; omega
    rw [ht.out]
    by_cases hlt : k < n
    · obtain ⟨b1, o1, rfl, q1⟩ := hI'.out k hlt
      obtain ⟨b2, o2, rfl, q2⟩ := hS'.out k hlt
      obtain ⟨d, hd⟩ : ∃ d, Hid (F k = d) := ⟨_, rfl⟩
      obtain ⟨x, hx⟩ : ∃ x, Hid (ss.getD k ByteArray.empty = x) := ⟨_, rfl⟩
      obtain ⟨y, hy⟩ : ∃ y, Hid (E k = y) := ⟨_, rfl⟩
      have dCk : Hid (∀ W, Calls Tryd.prog 26 #[.int .i64 (k : Int), .int .i64 (d : Int), .int .i64 (l : Int), .string x] W fun e w' => e = .returned (.string y) ∧ Below W.heap.size W w') := fun W => by
        have := dC.out k W hlt
        rwa [hd.out, hx.out, hy.out] at this
      have hys : y.size = 32 := by rw [← hy.out]; exact hE32.out k hlt
      obtain ⟨t', ht'⟩ : ∃ t' : ByteArray, Hid (t ++ y = t') := ⟨_, rfl⟩
      have f1 := ht'.out
      have g1 : ¬ (9223372036854775807 : Nat) < t.size + y.size := by omega
      have hnext : Hid (str (Ot.endsTo E (k + 1)) = t') := by
        show str (Ot.endsTo E k ++ ofStr (E k)) = _
        rw [← str_add, ht.out, hy.out, str_ofStr, ht'.out]
      have hES : ES w G (b : Int) (s : Int) b1 (o1 + k) d b2 (o2 + k) x wr := ⟨hS, by rw [← hd.out]; exact (hS.bel.cell (p := ⟨b1, o1 + k, none⟩) (bytes_lt q1)).trans q1, by rw [← hx.out]; exact (hS.bel.cell (p := ⟨b2, o2 + k, none⟩) (bytes_lt q2)).trans q2⟩
      obtain ⟨_, e0, e1, e2, e3⟩ := hES.all
      have hys2 := hidIt hys
      clear hS q1 q2 hd hx hy ht ht' hys
      go_wp2
      go_region_held3 (fun W' => ES w G (b : Int) (s : Int) b1 (o1 + k) d b2 (o2 + k) x W' ∧ W'.cell? ⟨G, 0, none⟩ = some (.int .i64 (b : Int)) ∧ W'.cell? ⟨G, 1, none⟩ = some (.int .i64 (s : Int)) ∧ W'.cell? ⟨b1, o1 + k, none⟩ = some (.int .i64 (d : Int)) ∧ W'.cell? ⟨b2, o2 + k, none⟩ = some (.string x))
        (first
          | exact ES.all (by assumption)
          | (go_split_ands; exact ES.all (by assumption))
          | (go_split_ands; exact ES.all (ES.drew (by assumption)))
          | (go_split_ands; exact ES.all (ES.behind (by assumption) (by assumption))))
        (first
          | (go_at_call 43; (with_reducible refine Calls.mono (d2.out _) ?_); rintro e w7 ⟨rfl, hb7⟩)
          | (go_at_call 26; (with_reducible refine Calls.mono (dCk.out _) ?_); rintro e w8 ⟨rfl, hb8⟩))
      all_goals
        go_split_ands
        have hS8 : ES w G (b : Int) (s : Int) b1 (o1 + k) d b2 (o2 + k) x w8 := by assumption
        have p8 := hidIt hS8.ps
        clear hS8 hES e0 e1 e2 e3 hb7 hb8
        go_wp2
        go_roundw
        case rel => exact ⟨k + 1, by go_num, by omega, by rw [hnext.out], p8.out⟩
        case measure => simp [intOf]; omega
    · have hkn : Hid (k = n) := by show _ = _; omega
      have hfin : Hid (t = str (Ot.endsTo E n)) := by show _ = _; rw [← ht.out, hkn.out]
      have HB := hidIt hS.bel
      clear hS ht hkn
      go_wp2
      go_ret
      exact ⟨by rw [← hfin.out]; rfl, HB.out⟩
/-- a string as bytes, told by functions of the world -/
noncomputable def cvC (z : ByteArray) (W : World) : Nat := Classical.choose (conv_to z W)
noncomputable def cvW (z : ByteArray) (W : World) : World := Classical.choose (Classical.choose_spec (conv_to z W))
theorem cv_all (z : ByteArray) (W : World) : (convert 9 66 (.string z)).run Tryd.prog W = .ok (.slice (some ⟨W.heap.size, 0, none⟩) z.size (cvC z W)) (cvW z W) ∧ Bytes (cvW z W) (some ⟨W.heap.size, 0, none⟩) (ofStr z) ∧ Below W.heap.size W (cvW z W) ∧ z.size ≤ cvC z W ∧ W.heap.size < (cvW z W).heap.size := Classical.choose_spec (Classical.choose_spec (conv_to z W))
theorem refsumW (z : ByteArray) (us : List Nat) (hz : Hid (ofStr z = us)) (hl : us.length ≤ 9000) (W : World) :
    Calls Tryd.prog 51 #[.slice (some ⟨W.heap.size, 0, none⟩) z.size (cvC z W)] (cvW z W) fun e w' => e = .returned (.string (str (Sh.sum us))) ∧ Below (cvW z W).heap.size (cvW z W) w' := by
  have h := cv_all z W
  have hby := h.2.1
  rw [hz.out] at hby
  exact refsum_at' _ z.size _ us (by rw [← hz.out, ofStr_len]) (by rw [← hz.out]; exact ofStr_lt z) hl _ hby (fun h => by cases h)
/-- parameters in the box G, and a slice of strings -/
structure ZS (w : World) (G : Nat) (b s : Int) (a : Option Addr) (ss : List ByteArray) (W : World) : Prop where
  ps : PS w G b s W
  st : Strs W a ss
theorem ZS.next {w W W' : World} {G : Nat} {b s : Int} {a : Option Addr} {ss : List ByteArray} (h : ZS w G b s a ss W) (hb : Below W.heap.size W W') : ZS w G b s a ss W' := ⟨h.ps.next hb, h.st.below hb⟩
theorem ZS.drew {w W : World} {G : Nat} {b s : Int} {a : Option Addr} {ss : List ByteArray} (h : ZS w G b s a ss W) : ZS w G b s a ss W.drew := h.next (Below.refl _ _).drew
theorem ZS.new {w W : World} {G : Nat} {b s : Int} {a : Option Addr} {ss : List ByteArray} (h : ZS w G b s a ss W) (o : Obj) : ZS w G b s a ss (W.alloc o) := h.next ((Below.refl _ _).alloc (Nat.le_refl _) o)
theorem ZS.behind {w W W' : World} {G : Nat} {b s : Int} {a : Option Addr} {ss : List ByteArray} (hb : Below W.heap.size W W') (h : ZS w G b s a ss W) : ZS w G b s a ss W' := h.next hb
theorem ZS.cv {w W : World} {G : Nat} {b s : Int} {a : Option Addr} {ss : List ByteArray} (z : ByteArray) (h : ZS w G b s a ss W) : ZS w G b s a ss (cvW z W) := h.next (cv_all z W).2.2.1
theorem ZS.all {w W : World} {G : Nat} {b s : Int} {a : Option Addr} {ss : List ByteArray} (h : ZS w G b s a ss W) : ZS w G b s a ss W ∧ W.cell? ⟨G, 0, none⟩ = some (.int .i64 b) ∧ W.cell? ⟨G, 1, none⟩ = some (.int .i64 s) := ⟨h, h.ps.c0, h.ps.c1⟩
theorem ints_zero (W : World) (n : Nat) : Ints (W.alloc (.cells (rowA .i64 (fun _ => 0) n n) 3)) (some ⟨W.heap.size, 0, none⟩) n (fun _ => 0) := ints_row (Blk.new _ _ _)
set_option maxRecDepth 100000 in
set_option maxHeartbeats 1000000 in
theorem refpublic_any (b s : Nat) (ho : Ot.okB b s = true) (sd : ByteArray) (ks : List Nat) (hk : Hid (ofStr sd = ks)) (hkl : ks.length ≤ 1200) (w : World) :
    Calls Tryd.prog 30 #[.agg #[.int .i64 (b : Int), .int .i64 (s : Int)], .string sd] w fun e w' => e = .returned (.string (Ot.pub b s ks)) ∧ Below w.heap.size w w' := by
  have hn9 := (Ot.tot_bd b s ho).2
  have dS : Hid (∀ W, Calls Tryd.prog 56 #[.agg #[.int .i64 (b : Int), .int .i64 (s : Int)], .string sd] W fun e w' => RSt e w' ((List.range (Ot.tot b s)).map (Ot.sec ks)) (Ot.tot b s) ∧ Below W.heap.size W w') := fun W => refstart_any b s ho sd ks hk hkl W
  obtain ⟨n, hn⟩ : ∃ n, Hid (Ot.tot b s = n) := ⟨_, rfl⟩
  obtain ⟨L, hL⟩ : ∃ L, Hid ((List.range n).map (Ot.sec ks) = L) := ⟨_, rfl⟩
  have hLl : Hid (n = L.length) := by show _ = _; rw [← hL.out]; simp
  have hget : ∀ i, i < n → L.getD i ByteArray.empty = Ot.sec ks i := fun i hi => by
    rw [← hL.out, List.getD_eq_getElem?_getD, List.getElem?_map, List.getElem?_range hi]; rfl
  rw [hn.out, hL.out] at dS
  rw [hn.out] at hn9
  obtain ⟨us, hus⟩ : ∃ us, Hid (Ot.endsTo (Ot.goE b (fun _ => 0) L) n = us) := ⟨_, rfl⟩
  obtain ⟨z, hz⟩ : ∃ z, Hid (str us = z) := ⟨_, rfl⟩
  obtain ⟨r, hr⟩ : ∃ r, Hid (Ot.pub b s ks = r) := ⟨_, rfl⟩
  have hfin : Hid (str (Sh.sum us) = r) := by
    show _ = _
    rw [← hr.out, ← hus.out]
    unfold Ot.pub
    rw [hn.out, Ot.endsTo_congr (F := fun i => Ot.vl ks i (Ot.las b)) n (fun i hi => by unfold Ot.goE; rw [hget i hi]; rfl)]
  have dE : Hid (∀ W g a c2, Ints W (some ⟨g, 0, none⟩) n (fun _ => 0) → Strs W a L → Calls Tryd.prog 57 #[.agg #[.int .i64 (b : Int), .int .i64 (s : Int)], .slice (some ⟨g, 0, none⟩) n n, .slice a n c2] W fun e w' => e = .returned (.string z) ∧ Below W.heap.size W w') := fun W g a c2 h1 h2 => by
    have := refends_any b s ho (some ⟨g, 0, none⟩) a n n c2 (fun _ => 0) L hLl.out (by omega) (fun _ _ => Nat.zero_le _) (fun i hi => by rw [hget i hi]; exact Ot.sec_size _ _) W h1 h2
    rwa [hus.out, hz.out] at this
  have hulen : us.length ≤ 9000 := by
    rw [← hus.out, Ot.endsTo_len (E := Ot.goE b (fun _ => 0) L) n (fun i hi => Ot.chn_size _ _ _ _ (by rw [hget i hi]; exact Ot.sec_size _ _))]; omega
  have hof : Hid (ofStr z = us) := by show _ = _; rw [← hz.out, ofStr_str _ (by rw [← hus.out]; exact Ot.endsTo_lt n)]
  have dU : Hid (∀ W, Calls Tryd.prog 51 #[.slice (some ⟨W.heap.size, 0, none⟩) z.size (cvC z W)] (cvW z W) fun e w' => e = .returned (.string r) ∧ Below (cvW z W).heap.size (cvW z W) w') := fun W => hfin.out ▸ refsumW z us hof hulen W
  have kv := fun W => (cv_all z W).1
  have mk := makeLenI n (by omega)
  rw [hr.out]
  have p0 := rs_new w (b : Int) (s : Int)
  have e0 := p0.c0
  have e1 := p0.c1
  clear hfin hof hus hz hr hget hL hn hk ho hulen
  go_enter Tryd.func30, Tryd.ntmps30
  go_wp2_with (fail)
  refine (dS.out _).mono ?_
  rintro e w2 ⟨⟨a, cap, rfl, hst, hcap⟩, hb2⟩
  have p2 := p0.next hb2
  obtain ⟨G, hG⟩ : ∃ G, Hid (w.heap.size = G) := ⟨_, rfl⟩
  rw [hG.out] at p2
  try rw [hG.out]
  have Z2 : ZS w G (b : Int) (s : Int) a L w2 := ⟨p2, hst⟩
  clear e0 e1 p0 hb2 hst p2
  have e0 := Z2.ps.c0
  have e1 := Z2.ps.c1
  go_wp2_with (fail)
  have Z3 := Z2.new (.cells (rowA .i64 (fun _ => 0) n n) 3)
  have k0 := Z3.ps.c0
  have k1 := Z3.ps.c1
  have Z3' := hidIt Z3.drew
  clear Z3
  go_region_law (first
    | (go_simp; go_at_call 57; refine Calls.mono (dE.out _ _ _ _ ((ints_zero w2 n).below (Below.refl _ _).drew) Z3'.out.st) ?_; rintro e w7 ⟨rfl, hb7⟩)
    | (go_simp; go_at_call 51; refine Calls.mono (dU.out _) ?_; rintro e w8 ⟨rfl, hb8⟩))
  all_goals
    have HB := hidIt (((Z3'.out.behind hb7).cv z).behind hb8).ps.bel
    clear Z2 e0 e1 k0 k1 kv mk hb7 hb8
    go_wp2_with (fail)
    go_ret
    exact ⟨rfl, HB.out⟩
end Go.Proofs.YtegfbmekpmdcaaaDoor
