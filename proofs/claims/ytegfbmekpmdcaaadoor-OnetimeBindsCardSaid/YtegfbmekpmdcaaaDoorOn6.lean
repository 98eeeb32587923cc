import Derived.Test.YtegfbmekpmdcaaaDoorOn3
namespace Go.Proofs.YtegfbmekpmdcaaaDoor
open Go.RowKit
theorem owned_len_cap {w : World} {base n c m : Nat} {a : Option Addr} {xs : List Value} (h : w.ownsRow base 5 1 (.slice a m c) n xs) : n ≤ c := by
  rcases h.2 with ⟨h1, h0⟩ | ⟨g, cap, cur, h1, _, _, h2, _⟩
  · omega
  · cases h1; exact h2
theorem En.enc_all (n : Nat) : ∀ x ∈ En.enc n, x < 256 := fun _ h => En.enc_lt h
theorem tx_lt {t : List Nat} (ht : ∀ x ∈ t, x < 256) (c : Nat) : ∀ x ∈ t ++ En.enc c, x < 256 := fun x hx => (List.mem_append.1 hx).elim (ht x) (En.enc_all c x)
/-- a slice whose bytes are xs, not nil -/
def SlR (w : World) (a : Option Addr) (cap : Nat) (xs : List Nat) : Prop := Bytes w a xs ∧ xs.length ≤ cap ∧ (0 < xs.length → a ≠ none)
theorem Fresh.sl {w w' : World} {e : Ending} {xs : List Nat} (h : Fresh w e w' xs) : ∃ a cap, e = .returned (.slice a xs.length cap) ∧ SlR w' a cap xs := by
  obtain ⟨a, cap, rfl, ho⟩ := h
  obtain ⟨a2, c2, hv, hby, _⟩ := owned_bytes ho rfl
  cases hv
  refine ⟨_, _, rfl, hby, owned_len_cap ho, fun h0 hn => ?_⟩
  obtain ⟨b, off, h2, _⟩ := hby 0 h0
  rw [hn] at h2; cases h2
theorem SlR.blk {w : World} {a : Option Addr} {cap : Nat} {xs : List Nat} (h : SlR w a cap xs) : 0 < xs.length → ∀ x, a = some x → x.block < w.heap.size := h.1.blk
set_option maxRecDepth 100000 in
theorem secret_ok (sd : ByteArray) (ks : List Nat) (hk : Hid (ofStr sd = ks)) (h32 : (sd.size : Int) = 32) (c : Nat) (hc : c ≤ 999) (w : World) (hL : LaidH w) :
    Calls Tryd.prog 23 #[.string sd, .int .i64 (c : Int)] w fun e w' => e = .returned (.tuple #[.string (Ot.sec ks c), .int .i64 0]) ∧ Below w.heap.size w w' := by
  have hx : Hid (exB (c : Int) = true) := (exB_iff _).2 ⟨by omega, by omega⟩
  have hkl : Hid (ks.length = 32) := by show _ = _; rw [← hk.out, ofStr_len]; omega
  obtain ⟨r, hr⟩ : ∃ r, Hid (Ot.sec ks c = r) := ⟨_, rfl⟩
  rw [hr.out]
  have dE : Hid (∀ W, Calls Tryd.prog 45 #[.int .i64 (c : Int)] W fun e w' => e = .returned (.bool true) ∧ W = w') := fun W => by have := exists_any (c : Int) W; rwa [hx.out] at this
  go_enter Tryd.func23, Tryd.ntmps23
  go_wp2_with (fail)
  refine (dE.out _).mono ?_
  rintro e w1 ⟨rfl, rfl⟩
  go_wp2_with (fail)
  refine (labelled_any _ Ot.txSecret (hidIt tag_txSecret) (by decide) c (by omega) _).mono ?_
  rintro e w2 ⟨hf, hb2⟩
  obtain ⟨a, cap, rfl, hs⟩ := hf.sl
  have L2 := hL.below hb2 hL.two
  have hl10 := (En.enc_len c).2
  have hll : (Ot.txSecret ++ En.enc c).length ≤ 20 := by rw [List.length_append]; have : Ot.txSecret.length = 6 := rfl; omega
  obtain ⟨xs, hxs⟩ : ∃ xs, Hid (Ot.txSecret ++ En.enc c = xs) := ⟨_, rfl⟩
  have hlt : Hid (∀ x ∈ xs, x < 256) := by rw [← hxs.out]; exact tx_lt (by decide) c
  have hfin : Hid (str (Hm.tag ks xs) = r) := by show _ = _; rw [← hxs.out, ← hr.out]; rfl
  rw [hxs.out] at hs hll
  try rw [hxs.out]
  have hs2 := hidIt hs
  clear hs hf hxs hr
  go_wp2_with (fail)
  refine (tag_any sd ks hk (by rw [hkl.out]; decide) a _ cap xs rfl hlt.out (by omega) hs2.out.2.1 _ L2 hs2.out.1).mono ?_
  rintro e w3 ⟨rfl, hb3⟩
  have HB := hidIt (below_then hb2 hb3)
  clear hb2 hb3 L2 hs2
  go_wp2_with (fail)
  go_ret2
  exact ⟨by rw [hfin.out]; rfl, HB.out⟩
set_option maxRecDepth 100000 in
theorem secret_no (sd : ByteArray) (c : Int) (h : ¬ (sd.size : Int) = 32 ∨ exB c = false) (w : World) :
    Calls Tryd.prog 23 #[.string sd, .int .i64 c] w fun e w' => e = .returned (.tuple #[.string ⟨#[]⟩, .int .i64 1]) ∧ Below w.heap.size w w' := by
  have HB : Hid (Below w.heap.size w w) := Below.refl _ _
  by_cases h1 : (sd.size : Int) = 32
  · have hx : Hid (exB c = false) := by rcases h with h | h; (exact absurd h1 h); exact h
    have dE : Hid (∀ W, Calls Tryd.prog 45 #[.int .i64 c] W fun e w' => e = .returned (.bool false) ∧ W = w') := fun W => by have := exists_any c W; rwa [hx.out] at this
    clear h hx
    go_enter Tryd.func23, Tryd.ntmps23
    go_wp2_with (fail)
    refine (dE.out _).mono ?_
    rintro e w1 ⟨rfl, rfl⟩
    go_wp2_with (fail)
    go_ret2
    exact ⟨rfl, HB.out⟩
  · clear h
    go_enter Tryd.func23, Tryd.ntmps23
    go_wp2_with (fail)
    go_ret2
    exact ⟨rfl, HB.out⟩
/-- the variable B of a closure: the label of chain c -/
def LabR (w : World) (B c : Nat) : Prop := ∃ a cap, w.cell? ⟨B, 0, none⟩ = some (.slice a (Ot.txChain ++ En.enc c).length cap) ∧ SlR w a cap (Ot.txChain ++ En.enc c)
theorem LabR.lt {w : World} {B c : Nat} (h : LabR w B c) : B < w.heap.size := by obtain ⟨_, _, h, _⟩ := h; exact bytes_lt h
theorem LabR.below {w w' : World} {B c : Nat} (h : LabR w B c) (hb : Below w.heap.size w w') : LabR w' B c := by
  have hlt := h.lt
  obtain ⟨a, cap, h1, h2, h3, h4⟩ := h
  exact ⟨a, cap, (hb.cell (p := ⟨B, 0, none⟩) hlt).trans h1, h2.below hb, h3, h4⟩
set_option maxRecDepth 100000 in
theorem along_any (c : Nat) (hc : c ≤ 999) (w : World) :
    Calls Tryd.prog 48 #[.int .i64 (c : Int)] w fun e w' => (∃ B, e = .returned (.func (.func 63) #[] #[.pointer (some ⟨B, 0, none⟩)]) ∧ LabR w' B c ∧ w.heap.size ≤ B) ∧ Below w.heap.size w w' := by
  have hmf : ∀ (fn : Fn) (first cap : Array Value) (w : World), (Instr.makeFunc fn first cap).run Tryd.prog w = .ok (.func fn first cap) w := fun _ _ _ _ => rfl
  go_enter Tryd.func48, Tryd.ntmps48
  go_wp2_with (fail)
  refine (labelled_any _ Ot.txChain (hidIt tag_txChain) (by decide) c (by omega) _).mono ?_
  rintro e w2 ⟨hf, hb2⟩
  obtain ⟨a, cap, rfl, hs⟩ := hf.sl
  have hs2 := hidIt hs
  have HB := hidIt hb2
  have hsz := hb2.size
  clear hs hf hb2
  go_wp2_with (fail)
  go_ret
  have hbA : Below w2.heap.size w2 (w2.alloc (.cells #[.slice a (Ot.txChain.length + (En.enc c).length) cap] 66)) := (Below.refl _ _).alloc (Nat.le_refl _) _
  refine ⟨⟨_, rfl, ⟨a, cap, ?_, ?_⟩, hsz⟩, below_then HB.out hbA⟩
  · rw [cell_of_row _ _ _ _ _ _ (heap_alloc_new w2 _), List.length_append]; rfl
  · exact ⟨hs2.out.1.below hbA, hs2.out.2⟩
set_option maxRecDepth 100000 in
set_option maxHeartbeats 1000000 in
theorem goes_any (B c f t : Nat) (x : ByteArray) (h32 : x.size = 32) (hft : f ≤ t) (ht : t ≤ 255) (w : World) (hL : LaidH w) (hB : LabR w B c) :
    Calls Tryd.prog 63 #[.int .i64 (f : Int), .int .i64 (t : Int), .string x, .pointer (some ⟨B, 0, none⟩)] w fun e w' => e = .returned (.string (Ot.chn c f (t - f) x)) ∧ Below w.heap.size w w' := by
  obtain ⟨n, hn⟩ : ∃ n, Hid (t - f = n) := ⟨_, rfl⟩
  have m1 : (t : Int) - (f : Int) = (n : Int) := by have := hn.out; omega
  have hnt : f + n ≤ 255 := by have := hn.out; omega
  have hL2 := hidIt hL
  have hB2 := hidIt hB
  have h322 := hidIt h32
  rw [hn.out]
  clear hL hB h32 hn
  go_enter Tryd.func63, Tryd.ntmps63
  go_wp2_with (fail)
  go_loopw [12, 2] (fun i v wr => ∃ k : Nat, i = .int .i64 (k : Int) ∧ k ≤ n ∧ v = .string (Ot.chn c f k x) ∧ Below w.heap.size w wr) (fun i _ _ => n - (intOf i).toNat)
  case atStart => exact ⟨0, rfl, by omega, rfl, Below.refl _ _⟩
  case round =>
    obtain ⟨k, rfl, hk, rfl, hb⟩ := hrel
    by_cases hlt : k < n
    · obtain ⟨j, hj⟩ : ∃ j, Hid (f + k = j) := ⟨_, rfl⟩
      have m2 : (f : Int) + (k : Int) = (j : Int) := by have := hj.out; omega
      have hj2 : j ≤ 255 := by have := hj.out; omega
      obtain ⟨y, hy⟩ : ∃ y, Hid (Ot.chn c f k x = y) := ⟨_, rfl⟩
      have hy32 : Hid (y.size = 32) := by show _ = _; rw [← hy.out]; exact Ot.chn_size _ _ _ _ h322.out
      obtain ⟨y', hy'⟩ : ∃ y', Hid (Ot.chn c f (k + 1) x = y') := ⟨_, rfl⟩
      have hstep : Hid (Ot.stp c j y = y') := by show _ = _; rw [← hy'.out, ← hy.out, ← hj.out]; rfl
      have LB := hB2.out.below hb
      have L := hL2.out.below hb hL2.out.two
      obtain ⟨la, lc, lcell, lby, lcap, lnn⟩ := LB
      obtain ⟨lb, hlb⟩ : ∃ lb, Hid (Ot.txChain ++ En.enc c = lb) := ⟨_, rfl⟩
      have hl10 := (En.enc_len c).2
      have hlbl : lb.length ≤ 15 ∧ 0 < lb.length := by rw [← hlb.out, List.length_append]; have : Ot.txChain.length = 5 := rfl; omega
      have hlb256 : Hid (∀ x ∈ lb, x < 256) := by rw [← hlb.out]; exact tx_lt (by decide) c
      rw [hlb.out] at lcell lby lcap lnn
      have hll := hlbl.1
      have hnil : la = none → lc = 0 ∧ lb = [] := fun e => absurd e (lnn hlbl.2)
      have lby2 := hidIt lby
      have hnil2 := hidIt hnil
      have hb2 := hidIt hb
      rw [hy.out]
      clear hb lby hnil lnn hlbl hl10 hj
      go_wp2_with (fail)
      refine (appendUint_any la lc j lb (by omega) (by omega) _ lby2.out hnil2.out).mono ?_
      rintro e w2 ⟨a2, c2, rfl, hown, hb3⟩
      have hj10 := (En.enc_len j).2
      obtain ⟨zs, hzs⟩ : ∃ zs, Hid (lb ++ En.enc j = zs) := ⟨_, rfl⟩
      have hzl : zs.length ≤ 25 := by rw [← hzs.out, List.length_append]; omega
      rw [hzs.out] at hown
      try rw [hzs.out]
      have hown2 := hidIt hown
      have H2 := hidIt (below_then hb2.out hb3)
      have L2 := hidIt (L.below hb3 L.two)
      have hs3 := hidIt hb3.size
      clear hown hb3 lcell hj10 L
      go_wp2_with (at_builtin; refine wpList_append_str _ rfl _ _ rfl wr.heap.size _ zs.length zs rfl rfl hown2.out y rfl (by rw [hy32.out]; omega) hs3.out ?_)
      intro a3 c3 w3 hown3 hg3
      obtain ⟨us, hus⟩ : ∃ us, Hid (zs ++ ofStr y = us) := ⟨_, rfl⟩
      have hul : zs.length + (ofStr y).length = us.length := by rw [← hus.out, List.length_append]
      rw [hus.out, hul] at hown3
      rw [hul]
      have hul2 : us.length ≤ 60 := by rw [← hul, ofStr_len, hy32.out]; omega
      have hu256 : Hid (∀ x ∈ us, x < 256) := by
        rw [← hus.out, ← hzs.out]
        intro x hx
        rcases List.mem_append.1 hx with h | h
        · exact (List.mem_append.1 h).elim (hlb256.out x) (En.enc_all j x)
        · exact ofStr_lt _ x h
      have hfin : Hid (str (Sh.sum us) = y') := by show _ = _; rw [← hstep.out, ← hus.out, ← hzs.out, ← hlb.out]; rfl
      have H3 := hidIt (H2.out.grown hg3 (H2.out.size) (fun q hq => Nat.le_trans hb2.out.size (hown2.out.lt q hq).1))
      have L3 := hidIt (hL2.out.below H3.out hL2.out.two)
      have hby3 : Hid (SlR w3 a3 c3 us) := by
        obtain ⟨a', c', hv, hby, _⟩ := owned_bytes hown3 rfl
        cases hv
        refine ⟨hby, owned_len_cap hown3, fun h0 hn => ?_⟩
        obtain ⟨b, off, h2, _⟩ := hby 0 h0
        rw [hn] at h2; cases h2
      clear hown3 hg3 hul hus hzs hown2 hlb
      go_wp2_with (fail)
      refine (sum_at a3 _ c3 us rfl hu256.out (by omega) hby3.out.2.1 _ L3.out.l hby3.out.1 hby3.out.blk).mono ?_
      rintro e w4 ⟨rfl, hb4⟩
      have H4 := hidIt (below_then H3.out hb4)
      rw [hfin.out]
      clear hb4
      go_wp2_with (fail)
      go_roundw
      case rel => exact ⟨k + 1, by go_num, by omega, by rw [hy'.out], H4.out⟩
      case measure => simp [intOf]; omega
    · have hkn : Hid (k = n) := by show _ = _; omega
      have hb2 := hidIt hb
      obtain ⟨y, hy⟩ : ∃ y, Hid (Ot.chn c f k x = y) := ⟨_, rfl⟩
      rw [hy.out]
      have hfin : Hid (y = Ot.chn c f n x) := by show _ = _; rw [← hy.out, hkn.out]
      clear hb hkn hk hy
      go_wp2_with (fail)
      go_ret
      exact ⟨by rw [← hfin.out]; rfl, hb2.out⟩
set_option maxRecDepth 100000 in
theorem chain_ok (c f t : Nat) (hc : c ≤ 999) (hft : f ≤ t) (ht : t ≤ 255) (x : ByteArray) (h32 : (x.size : Int) = 32) (w : World) (hL : LaidH w) :
    Calls Tryd.prog 24 #[.int .i64 (c : Int), .int .i64 (f : Int), .int .i64 (t : Int), .string x] w fun e w' => e = .returned (.tuple #[.string (Ot.chn c f (t - f) x), .int .i64 0]) ∧ Below w.heap.size w w' := by
  have hx : Hid (exB (c : Int) = true) := (exB_iff _).2 ⟨by omega, by omega⟩
  have dE : Hid (∀ W, Calls Tryd.prog 45 #[.int .i64 (c : Int)] W fun e w' => e = .returned (.bool true) ∧ W = w') := fun W => by have := exists_any (c : Int) W; rwa [hx.out] at this
  obtain ⟨y, hy⟩ : ∃ y, Hid (Ot.chn c f (t - f) x = y) := ⟨_, rfl⟩
  rw [hy.out]
  have t1 : (f : Int) ≤ (t : Int) := by omega
  have t2 : (t : Int) ≤ 255 := by omega
  go_enter Tryd.func24, Tryd.ntmps24
  go_wp2_with (fail)
  refine (dE.out _).mono ?_
  rintro e w1 ⟨rfl, rfl⟩
  go_wp2_with (fail)
  refine (along_any c hc _).mono ?_
  rintro e w2 ⟨⟨B, rfl, hB, _⟩, hb2⟩
  have L2 := hL.below hb2 hL.two
  have hB2 := hidIt hB
  have hb22 := hidIt hb2
  clear hb2 hB
  go_wp2_with (fail)
  refine (goes_any B c f t x (by omega) hft ht _ L2 hB2.out).mono ?_
  rintro e w3 ⟨rfl, hb3⟩
  have HB := hidIt (below_then hb22.out hb3)
  rw [hy.out]
  clear hb3 L2
  go_wp2_with (fail)
  go_ret2
  exact ⟨rfl, HB.out⟩
def chOk (c f t : Int) (x : ByteArray) : Bool := exB c && (decide (0 ≤ f) && (decide (f ≤ t) && (decide (t ≤ 255) && decide ((x.size : Int) = 32))))
theorem chOk_iff (c f t : Int) (x : ByteArray) : chOk c f t x = true ↔ exB c = true ∧ 0 ≤ f ∧ f ≤ t ∧ t ≤ 255 ∧ (x.size : Int) = 32 := by simp [chOk]
set_option maxRecDepth 100000 in
theorem chain_no (c f t : Int) (x : ByteArray) (h : chOk c f t x = false) (w : World) :
    Calls Tryd.prog 24 #[.int .i64 c, .int .i64 f, .int .i64 t, .string x] w fun e w' => e = .returned (.tuple #[.string ⟨#[]⟩, .int .i64 1]) ∧ Below w.heap.size w w' := by
  have HB : Hid (Below w.heap.size w w) := Below.refl _ _
  have hno : Hid (¬ (exB c = true ∧ 0 ≤ f ∧ f ≤ t ∧ t ≤ 255 ∧ (x.size : Int) = 32)) := fun hh => absurd ((chOk_iff _ _ _ _).2 hh) (by rw [h]; decide)
  obtain ⟨q, hq⟩ : ∃ q, Hid (exB c = q) := ⟨_, rfl⟩
  have dE : Hid (∀ W, Calls Tryd.prog 45 #[.int .i64 c] W fun e w' => e = .returned (.bool q) ∧ W = w') := fun W => by have := exists_any c W; rwa [hq.out] at this
  clear h
  cases q with
  | false =>
    go_enter Tryd.func24, Tryd.ntmps24
    go_wp2_with (fail)
    refine (dE.out _).mono ?_
    rintro e w1 ⟨rfl, rfl⟩
    go_wp2_with (fail)
    go_ret2
    exact ⟨rfl, HB.out⟩
  | true =>
    by_cases h1 : 0 ≤ f
    · by_cases h2 : f ≤ t
      · by_cases h3 : t ≤ 255
        · have h4 : ¬ (x.size : Int) = 32 := fun h4 => hno.out ⟨hq.out, h1, h2, h3, h4⟩
          have k1 : decide (f < 0) = false := by simp; omega
          have k2 : decide (t < f) = false := by simp; omega
          have k3 : decide (255 < t) = false := by simp; omega
          have k4 : ((x.size : Int) != 32) = true := by simp; omega
          go_enter Tryd.func24, Tryd.ntmps24
          go_wp2_with (fail)
          refine (dE.out _).mono ?_
          rintro e w1 ⟨rfl, rfl⟩
          go_wp2_with (fail)
          go_ret2
          exact ⟨rfl, HB.out⟩
        · have k1 : decide (f < 0) = false := by simp; omega
          have k2 : decide (t < f) = false := by simp; omega
          have k3 : decide (255 < t) = true := by simp; omega
          go_enter Tryd.func24, Tryd.ntmps24
          go_wp2_with (fail)
          refine (dE.out _).mono ?_
          rintro e w1 ⟨rfl, rfl⟩
          go_wp2_with (fail)
          go_ret2
          exact ⟨rfl, HB.out⟩
      · have k1 : decide (f < 0) = false := by simp; omega
        have k2 : decide (t < f) = true := by simp; omega
        go_enter Tryd.func24, Tryd.ntmps24
        go_wp2_with (fail)
        refine (dE.out _).mono ?_
        rintro e w1 ⟨rfl, rfl⟩
        go_wp2_with (fail)
        go_ret2
        exact ⟨rfl, HB.out⟩
    · have k1 : decide (f < 0) = true := by simp; omega
      go_enter Tryd.func24, Tryd.ntmps24
      go_wp2_with (fail)
      refine (dE.out _).mono ?_
      rintro e w1 ⟨rfl, rfl⟩
      go_wp2_with (fail)
      go_ret2
      exact ⟨rfl, HB.out⟩
set_option maxRecDepth 100000 in
theorem value_any (sd : ByteArray) (ks : List Nat) (hk : Hid (ofStr sd = ks)) (h32 : (sd.size : Int) = 32) (c d : Nat) (hc : c ≤ 999) (hd : d ≤ 255) (w : World) (hL : LaidH w) :
    Calls Tryd.prog 55 #[.string sd, .int .i64 (c : Int), .int .i64 (d : Int)] w fun e w' => e = .returned (.string (Ot.vl ks c d)) ∧ Below w.heap.size w w' := by
  obtain ⟨y, hy⟩ : ∃ y, Hid (Ot.vl ks c d = y) := ⟨_, rfl⟩
  obtain ⟨x, hx⟩ : ∃ x, Hid (Ot.sec ks c = x) := ⟨_, rfl⟩
  have hxs : Hid (x.size = 32) := by show _ = _; rw [← hx.out]; exact Ot.sec_size _ _
  have hyx : Hid (Ot.chn c 0 d x = y) := by show _ = _; rw [← hx.out, ← hy.out]; rfl
  have dS : Hid (∀ W, LaidH W → Calls Tryd.prog 23 #[.string sd, .int .i64 (c : Int)] W fun e w' => e = .returned (.tuple #[.string x, .int .i64 0]) ∧ Below W.heap.size W w') := fun W hW => hx.out ▸ secret_ok sd ks hk h32 c hc W hW
  rw [hy.out]
  clear hy hx h32 hk
  go_enter Tryd.func55, Tryd.ntmps55
  go_wp2_with (fail)
  refine (dS.out _ hL).mono ?_
  rintro e w1 ⟨rfl, hb1⟩
  have L1 := hL.below hb1 hL.two
  have h1 := hidIt hb1
  clear hb1
  go_wp2_with (fail)
  refine (along_any c hc _).mono ?_
  rintro e w2 ⟨⟨B, rfl, hB, _⟩, hb2⟩
  have L2 := L1.below hb2 L1.two
  have hB2 := hidIt hB
  have h2 := hidIt (below_then h1.out hb2)
  clear hb2 hB
  go_wp2_with (fail)
  refine (goes_any B c 0 d x hxs.out (by omega) hd _ L2 hB2.out).mono ?_
  rintro e w3 ⟨rfl, hb3⟩
  have HB := hidIt (below_then h2.out hb3)
  rw [Nat.sub_zero, hyx.out]
  clear hb3 L2
  go_wp2_with (fail)
  go_ret
  exact ⟨rfl, HB.out⟩
end Go.Proofs.YtegfbmekpmdcaaaDoor
