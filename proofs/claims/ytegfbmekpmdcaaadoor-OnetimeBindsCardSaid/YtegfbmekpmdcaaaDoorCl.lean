import Derived.Test.YtegfbmekpmdcaaaDoorOr5
import Derived.Test.YtegfbmekpmdcaaaDoorOr2
import Derived.Maps.AppendAt
namespace Go.Proofs.YtegfbmekpmdcaaaDoor
open Go.RowKit
/-- the sum of a string -/
def sumS (x : ByteArray) : ByteArray := str (Sh.sum (ofStr x))
/-- two different strings of a list with one sum -/
def Coll (L : List ByteArray) : Prop := ∃ x ∈ L, ∃ y ∈ L, x ≠ y ∧ sumS x = sumS y
def CollAt (L : List ByteArray) (i k : Nat) : Prop := sumS (L.getD k ByteArray.empty) = sumS (L.getD i ByteArray.empty) ∧ L.getD k ByteArray.empty ≠ L.getD i ByteArray.empty
theorem coll_at {L : List ByteArray} (h : Coll L) : ∃ i, i < L.length ∧ ∃ k, k < i ∧ CollAt L i k := by
  obtain ⟨x, hx, y, hy, hne, hs⟩ := h
  obtain ⟨i, hi, rfl⟩ := List.getElem_of_mem hx
  obtain ⟨k, hk, rfl⟩ := List.getElem_of_mem hy
  have gi : L.getD i ByteArray.empty = L[i] := by rw [List.getD_eq_getElem?_getD, List.getElem?_eq_getElem hi]; rfl
  have gk : L.getD k ByteArray.empty = L[k] := by rw [List.getD_eq_getElem?_getD, List.getElem?_eq_getElem hk]; rfl
  rcases Nat.lt_trichotomy i k with h | h | h
  · exact ⟨k, hk, i, h, by unfold CollAt; rw [gi, gk]; exact ⟨hs, hne⟩⟩
  · subst h; exact absurd rfl hne
  · exact ⟨i, hi, k, h, by unfold CollAt; rw [gi, gk]; exact ⟨hs.symm, hne.symm⟩⟩
set_option maxRecDepth 100000 in
set_option maxHeartbeats 2000000 in
theorem collision_any (a : Option Addr) (n cap : Nat) (L : List ByteArray) (hn : n = L.length) (hn9 : n ≤ 1000000) (hsz : ∀ x ∈ L, x.size ≤ 9000) (hC : Coll L) (w : World) (hS : Strs w a L) :
    Calls Tryd.prog 38 #[.slice a n cap] w fun e w' => e = .returned (.bool true) ∧ Below w.heap.size w w' := by
  have hat : Hid (∃ i, i < n ∧ ∃ k, k < i ∧ CollAt L i k) := by rw [hn]; exact coll_at hC
  have dU : Hid (∀ (i : Nat) W c z, i < n → L.getD i ByteArray.empty = z → Bytes W (some ⟨c, 0, none⟩) (ofStr z) → ∀ cp, z.size ≤ cp → Calls Tryd.prog 51 #[.slice (some ⟨c, 0, none⟩) z.size cp] W fun e w' => e = .returned (.string (sumS (L.getD i ByteArray.empty))) ∧ Below W.heap.size W w') := fun i W c z hi hz hb cp hcp => by
    subst hz
    refine refsum_at' _ _ cp _ (ofStr_len _).symm (ofStr_lt _) ?_ W hb (fun h => by cases h)
    rw [ofStr_len]
    have hi' : i < L.length := by omega
    rw [List.getD_eq_getElem?_getD, List.getElem?_eq_getElem hi']
    exact hsz _ (List.getElem_mem hi')
  have hS' : Hid (∀ i, i < n → ∃ b off, a = some ⟨b, off, none⟩ ∧ w.cell? ⟨b, off + i, none⟩ = some (.string (L.getD i ByteArray.empty))) := fun i hi => hS i (by omega)
  obtain ⟨X, hX⟩ : ∃ X : Nat → ByteArray, Hid ((fun i => L.getD i ByteArray.empty) = X) := ⟨_, rfl⟩
  have hXi : ∀ i, L.getD i ByteArray.empty = X i := fun i => by rw [← hX.out]
  have hat2 : Hid (∃ i, i < n ∧ ∃ k, k < i ∧ (sumS (X k) = sumS (X i) ∧ X k ≠ X i)) := by
    obtain ⟨i, hi, k, hk, h⟩ := hat.out
    unfold CollAt at h
    rw [hXi, hXi] at h
    exact ⟨i, hi, k, hk, h⟩
  simp only [hXi] at dU hS'
  clear hat hS hC hsz hn hX hXi
  go_enter Tryd.func38, Tryd.ntmps38
  go_wp2_with (fail)
  go_loopw [9, 3] (fun i v wr => ∃ k : Nat, i = .int .i64 (k : Int) ∧ k ≤ n ∧ Below w.heap.size w wr ∧ wr.ownsRow w.heap.size 9 1 v k (svals ((List.range k).map fun j => sumS (X j))) ∧ Hid (∀ i', i' < k → ∀ k', k' < i' → ¬ (sumS (X k') = sumS (X i') ∧ X k' ≠ X i'))) (fun i _ _ => n - (intOf i).toNat)
  case atStart => exact ⟨0, rfl, by omega, Below.refl _ _, ⟨rfl, .inl ⟨rfl, rfl⟩⟩, fun i' h => by omega⟩
  case round =>
    obtain ⟨i, rfl, hi, hb, hown, hno⟩ := hrel
    by_cases hlt : i < n
    · obtain ⟨b1, o1, rfl, q1⟩ := hS'.out i hlt
      have c1 : wr.cell? ⟨b1, o1 + i, none⟩ = some (.string (X i)) := (hb.cell (p := ⟨b1, o1 + i, none⟩) (bytes_lt q1)).trans q1
      obtain ⟨x, hx⟩ : ∃ x, Hid (X i = x) := ⟨_, rfl⟩
      obtain ⟨s, hs⟩ : ∃ s, Hid (sumS (X i) = s) := ⟨_, rfl⟩
      rw [hx.out] at c1
      obtain ⟨cp, w2, hcv, hby, hb2, hc2, hlt2⟩ := conv_to x wr
      have hby' := hidIt hby
      have hc2' := hidIt hc2
      have own2 := hidIt (own_belowS hown hb2)
      have H2 := hidIt (below_then hb hb2)
      have dUi : Hid (∀ W c, Bytes W (some ⟨c, 0, none⟩) (ofStr x) → Calls Tryd.prog 51 #[.slice (some ⟨c, 0, none⟩) x.size cp] W fun e w' => e = .returned (.string s) ∧ Below W.heap.size W w') := fun W c h => hs.out ▸ dU.out i W c x hlt hx.out h cp hc2'.out
      clear q1 hby hc2 hb2 hown hlt2 hb
      go_wp2_with (fail)
      refine (dUi.out _ _ hby'.out).mono ?_
      rintro e w3 ⟨rfl, hb3⟩
      have hbA : Below w3.heap.size w3 (w3.alloc (.cells #[.string s] 9)) := (Below.refl _ _).alloc (Nat.le_refl _) _
      have own3 := hidIt (own_belowS (own_belowS own2.out hb3) hbA)
      have H3 := hidIt (below_then (below_then H2.out hb3) hbA)
      clear hb3 hbA own2 H2 hcv
      go_wp2_with (at_builtin; refine wpList_snoc_str _ rfl _ _ rfl w.heap.size _ i ((List.range i).map fun j => sumS (X j)) rfl own3.out w3.heap.size s rfl (str_new w3 s) (by omega) H3.out.size ?_)
      intro v4 w4 own4 hb4
      have H4 := hidIt (H3.out.trans hb4)
      rw [← hs.out, ← range_snoc (fun j => sumS (X j))] at own4
      obtain ⟨as4, cs4, hv4, hcap4, hst4, _⟩ := owned_strs own4 (by simp)
      have hln : ((List.range (i + 1)).map fun j => sumS (X j)).length = i + 1 := by simp
      rw [hln] at hv4 hcap4
      subst hv4
      have hsum4 : Hid (∀ j, j < i + 1 → ∃ b off, as4 = some ⟨b, off, none⟩ ∧ w4.cell? ⟨b, off + j, none⟩ = some (.string (sumS (X j)))) := fun j hj => by
        obtain ⟨b', o', h1, h2⟩ := hst4 j (by rw [hln]; exact hj)
        refine ⟨b', o', h1, ?_⟩
        rw [h2, List.getD_eq_getElem?_getD, List.getElem?_map, List.getElem?_range hj]; rfl
      have own4' := hidIt own4
      obtain ⟨wo, rfl⟩ : ∃ wo : World, wo = w4 := ⟨_, rfl⟩
      clear own4 hb4 own3 H3 hst4 hln c1
      go_wp2_with (fail)
      go_loopw [6] (fun k wr => ∃ j q : Nat, k = .int .i64 (j : Int) ∧ j ≤ i ∧ Hid (wr = wo.drewN q) ∧ Hid (∀ k', k' < j → ¬ (sumS (X k') = sumS (X i) ∧ X k' ≠ X i))) (fun k _ => i - (intOf k).toNat)
      case atStart => exact ⟨0, 0, rfl, by omega, rfl, fun k' h => by omega⟩
      case round =>
        obtain ⟨j, q, rfl, hj, hw, hno2⟩ := hrel
        by_cases hjl : j < i
        · obtain ⟨b2, o2, rfl, q2⟩ := hsum4.out j (by omega)
          obtain ⟨_, _, hh, q3⟩ := hsum4.out i (by omega)
          cases hh
          obtain ⟨b4, o4, hh, q4⟩ := hS'.out j (by omega)
          cases hh
          have q4' : wo.cell? ⟨b1, o1 + j, none⟩ = some (.string (X j)) := (H4.out.cell (p := ⟨b1, o1 + j, none⟩) (bytes_lt q4)).trans q4
          have c2 : wr.cell? ⟨b2, o2 + j, none⟩ = some (.string (sumS (X j))) := by rw [hw.out]; exact q2
          have c3 : wr.cell? ⟨b2, o2 + i, none⟩ = some (.string (sumS (X i))) := by rw [hw.out]; exact q3
          have c4 : wr.cell? ⟨b1, o1 + j, none⟩ = some (.string (X j)) := by rw [hw.out]; exact q4'
          obtain ⟨y, hy⟩ : ∃ y, Hid (X j = y) := ⟨_, rfl⟩
          obtain ⟨t, ht⟩ : ∃ t, Hid (sumS (X j) = t) := ⟨_, rfl⟩
          rw [ht.out] at c2
          rw [hs.out] at c3
          rw [hy.out] at c4
          have hi1 : i < i + 1 := by omega
          have hj1 : j < i + 1 := by omega
          clear q2 q3 q4 q4'
          by_cases hts : t = s
          · by_cases hyx : y = x
            · have hno3 : Hid (∀ k', k' < j + 1 → ¬ (sumS (X k') = sumS (X i) ∧ X k' ≠ X i)) := fun k' hk' => by
                by_cases h : k' = j
                · subst h; rw [hy.out, hx.out]; exact fun hh => hh.2 hyx
                · exact hno2.out k' (by omega)
              have t1 : (t.toList == s.toList) = true := by rw [hts]; simp
              have t2 : (y.toList == x.toList) = true := by rw [hyx]; simp
              clear hno2 hy ht hts hyx
              go_wp2
              go_quiet (fail)
              go_wp2
              go_roundw
              case rel => exact ⟨j + 1, _, by go_num, by omega, by rw [hw.out]; exact World.drewN_drewN .., hno3⟩
              case measure => simp [intOf]; omega
            · have t1 : (t.toList == s.toList) = true := by rw [hts]; simp
              have t2 : (y.toList == x.toList) = false := (str_bne hyx).2
              clear hno2 hy ht hts hyx
              go_wp2
              go_quiet (fail)
              go_wp2
              go_ret
              exact ⟨rfl, by rw [hw.out]; exact below_drewN (below_drewN H4.out _) _⟩
          · have hno3 : Hid (∀ k', k' < j + 1 → ¬ (sumS (X k') = sumS (X i) ∧ X k' ≠ X i)) := fun k' hk' => by
              by_cases h : k' = j
              · subst h; rw [ht.out, hs.out]; exact fun hh => hts hh.1
              · exact hno2.out k' (by omega)
            have t1 : (t.toList == s.toList) = false := (str_bne hts).2
            clear hno2 hy ht hts
            go_wp2
            go_quiet (fail)
            go_wp2
            go_roundw
            case rel => exact ⟨j + 1, _, by go_num, by omega, by rw [hw.out]; exact World.drewN_drewN .., hno3⟩
            case measure => simp [intOf]; omega
        · have hji : Hid (j = i) := by show _ = _; omega
          have hno4 : Hid (∀ i', i' < i + 1 → ∀ k', k' < i' → ¬ (sumS (X k') = sumS (X i') ∧ X k' ≠ X i')) := fun i' hi' k' hk' => by
            by_cases h : i' = i
            · subst h; exact hno2.out k' (by have := hji.out; omega)
            · exact hno.out i' (by omega) k' hk'
          have HB := hidIt (show Below w.heap.size w wr by rw [hw.out]; exact below_drewN H4.out q)
          have ownr : Hid (wr.ownsRow w.heap.size 9 1 (.slice as4 (i + 1) cs4) (i + 1) (svals ((List.range (i + 1)).map fun j => sumS (X j)))) := by rw [hw.out]; exact own4'.out
          clear hno2 hw
          go_wp2
          go_roundw
          case rel => exact ⟨i + 1, by go_num, by omega, HB.out, ownr.out, hno4⟩
          case measure => simp [intOf]; omega
    · exfalso
      obtain ⟨i', hi', k', hk', h⟩ := hat2.out
      exact hno.out i' (by omega) k' hk' h
end Go.Proofs.YtegfbmekpmdcaaaDoor
namespace Go.Proofs.YtegfbmekpmdcaaaDoor
open Go.RowKit
/-- what the reference's Digits returns, in a block of its own -/
def RdF (w : World) (e : Ending) (w' : World) (F : Nat → Nat) (n : Nat) : Prop := ∃ a cap, e = .returned (.slice a n cap) ∧ Ints w' a n F ∧ n ≤ cap ∧ ∀ x, a = some x → w.heap.size ≤ x.block
set_option maxRecDepth 100000 in
set_option maxHeartbeats 2000000 in
theorem refdigits_own (b s : Nat) (ho : Ot.okB b s = true) (dig : ByteArray) (xs : List Nat) (hx : Hid (ofStr dig = xs)) (hsz : (dig.size : Int) = (s : Int)) (w : World) :
    Calls Tryd.prog 21 #[.agg #[.int .i64 (b : Int), .int .i64 (s : Int)], .string dig] w fun e w' => RdF w e w' (Ot.dgs b s xs) (Ot.tot b s) ∧ Below w.heap.size w w' := by
  have hl := Ot.las_bd b s ho
  have hm := Ot.mn_bd b s ho
  have hc := Ot.cd_bd b s ho
  have hsh := Ot.cd_sh b s ho
  have hob := hidIt ho
  have eb := ((Ot.ok_iff b s).1 ho).1
  have d1 : Hid (∀ W, Calls Tryd.prog 19 #[.agg #[.int .i64 (b : Int), .int .i64 (s : Int)]] W fun e w' => e = .returned (.int .i64 (Ot.mn b s : Int)) ∧ Below W.heap.size W w') := fun W => refmain_any b s ho W
  have d2 : Hid (∀ W, Calls Tryd.prog 43 #[.agg #[.int .i64 (b : Int), .int .i64 (s : Int)]] W fun e w' => e = .returned (.int .i64 ((Ot.las b + 1 : Nat) : Int)) ∧ Below W.heap.size W w') := fun W => refbase_any b s ho W
  have d3 : Hid (∀ W, Calls Tryd.prog 20 #[.agg #[.int .i64 (b : Int), .int .i64 (s : Int)]] W fun e w' => e = .returned (.int .i64 (Ot.cd b s : Int)) ∧ Below W.heap.size W w') := fun W => refcheck_any b s ho W
  have hszb : dig.size = s := by omega
  have d4 : Hid (∀ i W, i / 8 < s → i ≤ 1000000 → Calls Tryd.prog 44 #[.string dig, .int .i64 (i : Int)] W fun e w' => e = .returned (.int .i64 (Ot.bitAt xs i : Int)) ∧ W = w') := fun i W h1 h2 => refbit_any dig xs hx i (by omega) h2 W
  obtain ⟨n, hn⟩ : ∃ n, Hid (Ot.tot b s = n) := ⟨_, rfl⟩
  obtain ⟨c, hcd⟩ : ∃ c, Hid (Ot.cd b s = c) := ⟨_, rfl⟩
  obtain ⟨m, hmn⟩ : ∃ m, Hid (Ot.mn b s = m) := ⟨_, rfl⟩
  obtain ⟨l, hll⟩ : ∃ l, Hid (Ot.las b = l) := ⟨_, rfl⟩
  obtain ⟨p, hp⟩ : ∃ p, Hid (l + 1 = p) := ⟨_, rfl⟩
  have hnm : Hid (n = m + c) := by show _ = _; rw [← hn.out, ← hmn.out, ← hcd.out]; rfl
  rw [hn.out]
  rw [hcd.out] at hc d3 hsh
  rw [hmn.out] at hm d1
  rw [hll.out] at hl d2
  rw [hp.out] at d2
  have hm2 : m ≤ 256 := hm.2.1
  have hmb : Hid (m * b = 8 * s) := hm.2.2
  have hc9 : c ≤ 9 := hc.2
  have hc1 : 1 ≤ c := hc.1
  have b8 : b ≤ 8 := hl.2.2.2
  have b1 : 1 ≤ b := by omega
  have hl2 : l ≤ 255 := hl.2.1
  have hp256 : p ≤ 256 := by have := hp.out; omega
  have hp2 : 2 ≤ p := by have := hp.out; have := hl.1; omega
  have hpw : Hid (p = 2 ^ b) := by show _ = _; rw [← hp.out]; exact hl.2.2.1
  have hpl : Hid (p = l + 1) := hp.out.symm
  have hs32 : s ≤ 32 := ((Ot.ok_iff b s).1 ho).2.2
  have hebh := hidIt eb
  have hshh := hidIt hsh
  have p0 := rs_new w (b : Int) (s : Int)
  obtain ⟨w1, hw1⟩ : ∃ w1, Hid (w.alloc (.cells #[.int .i64 (b : Int), .int .i64 (s : Int)] 23) = w1) := ⟨_, rfl⟩
  obtain ⟨G, hG⟩ : ∃ G, Hid (w.heap.size = G) := ⟨_, rfl⟩
  have hw1s : Hid (w1.heap.size = G + 1) := by rw [← hw1.out, ← hG.out]; exact World.size_alloc _ _
  have hwG : Hid (w.heap.size ≤ G + 1) := by show _ ≤ _; rw [← hG.out]; omega
  rw [hw1.out, hG.out] at p0
  clear hl hm hc ho hsz hszb hp eb hsh hx
  go_enter Tryd.func21, Tryd.ntmps21
  go_wp2_with (fail)
  rw [hw1.out]
  try rw [hG.out]
  clear hw1
  go_loopw [7, 5, 6] (fun i v z wr => ∃ k : Nat, i = .int .i64 (k : Int) ∧ k ≤ m ∧ z = .int .i64 ((Ot.ckTo b xs k : Nat) : Int) ∧ PS w G (b : Int) (s : Int) wr ∧ wr.ownsRow (G + 1) 3 1 v k (ivals ((List.range k).map (Ot.dg b xs)))) (fun i _ _ _ => m - (intOf i).toNat)
  case atStart => exact ⟨0, rfl, by omega, rfl, p0, ⟨rfl, .inl ⟨rfl, rfl⟩⟩⟩
  case round =>
    obtain ⟨k, rfl, hk, rfl, hS, hown⟩ := hrel
    clear p0
    have hckb := Ot.ckTo_le b xs k
    obtain ⟨z, hz⟩ : ∃ z, Hid (Ot.ckTo b xs k = z) := ⟨_, rfl⟩
    rw [hz.out, hll.out] at hckb
    have hz3 : z ≤ 65280 := Nat.le_trans hckb (Nat.mul_le_mul (Nat.le_trans hk hm2) hl2)
    rw [hz.out]
    clear hckb
    have e0 := hS.c0
    have e1 := hS.c1
    by_cases hlt : k < m
    · go_wp2_with (fail)
      refine (d1.out _).mono ?_
      rintro e w5 ⟨rfl, hb5⟩
      have p5 := hS.next hb5
      have own5 := hidIt (own_belowI hown hb5)
      have hsz5 := hidIt (Nat.le_trans (show G + 1 ≤ wr.heap.size from bytes_lt hS.c0) hb5.size)
      clear hS hown hb5 e0 e1
      have e0 := p5.c0
      have e1 := p5.c1
      obtain ⟨a, ha⟩ : ∃ a, Hid (k * b = a) := ⟨_, rfl⟩
      have ha2 : a + b ≤ 8 * s := by rw [← hmb.out, ← ha.out, ← Nat.succ_mul]; exact Nat.mul_le_mul_right b hlt
      have m1 : (k : Int) * (b : Int) = (a : Int) := by rw [← ha.out]; push_cast; rfl
      obtain ⟨wo, hwo⟩ : ∃ wo, Hid (wo = wr) := ⟨_, rfl⟩
      go_wp2_with (fail)
      go_loop [8, 9] (fun d j => ∃ q : Nat, j = .int .i64 (q : Int) ∧ q ≤ b ∧ d = .int .i64 ((Ot.part b xs k q : Nat) : Int)) (fun _ j => b - (intOf j).toNat)
      case atStart => exact ⟨0, rfl, by omega, by rw [Ot.part_zero]; rfl⟩
      case round =>
        obtain ⟨q, rfl, hq, rfl⟩ := hrel
        obtain ⟨d, hd⟩ : ∃ d, Hid (Ot.part b xs k q = d) := ⟨_, rfl⟩
        have hd255 : d ≤ 255 := by rw [← hd.out]; exact Ot.part_le b xs k q (by omega)
        rw [hd.out]
        by_cases hql : q < b
        · obtain ⟨aq, haq⟩ : ∃ aq, Hid (a + q = aq) := ⟨_, rfl⟩
          have m2 : (a : Int) + (q : Int) = (aq : Int) := by have := haq.out; omega
          have haq9 : aq ≤ 256 := by have := haq.out; omega
          obtain ⟨y, hy⟩ : ∃ y, Hid (Ot.bitAt xs aq = y) := ⟨_, rfl⟩
          have hy1 : y ≤ 1 := by rw [← hy.out]; unfold Ot.bitAt; omega
          have dB : Hid (∀ W, Calls Tryd.prog 44 #[.string dig, .int .i64 (aq : Int)] W fun e w' => e = .returned (.int .i64 (y : Int)) ∧ W = w') := fun W => hy.out ▸ d4.out aq W (by have := haq.out; omega) (by omega)
          have hst : Hid (2 * d + y = Ot.part b xs k (q + 1)) := by
            show _ = _
            rw [← Ot.part_step b hebh.out xs k q hql, hd.out, ha.out, haq.out, hy.out]
          clear hd haq hy
          go_wp2_with (fail)
          refine (dB.out _).mono ?_
          rintro e w6 ⟨rfl, rfl⟩
          go_wp2_with (fail)
          go_round
          case rel => exact ⟨q + 1, by go_num, by omega, by rw [← hst.out]; go_num⟩
          case measure => simp [intOf]; omega
        · have hqb : Hid (q = b) := by show _ = _; omega
          have hdg : Hid (Ot.dg b xs k = d) := by show _ = _; rw [← hd.out, hqb.out]; rfl
          have hdl : d ≤ l := by rw [← hdg.out, ← hll.out]; exact Ot.dg_le b xs k
          clear hd hqb hq
          have hbA : Below w5.heap.size w5 (w5.alloc (.cells #[.int .i64 (d : Int)] 3)) := (Below.refl _ _).alloc (Nat.le_refl _) _
          have own6 := hidIt (own_belowI own5.out hbA)
          have p6 := p5.next hbA
          have hA6 := hidIt hbA.size
          clear hbA
          go_wp2_with (at_builtin; refine wpList_snoc_int _ rfl _ _ rfl (G + 1) _ k ((List.range k).map (Ot.dg b xs)) rfl own6.out w5.heap.size d rfl (int_new w5 d) (by omega) (by have := hsz5.out; have := hA6.out; omega) ?_)
          intro v7 w7 own7 hb7
          have p7 := p6.nextB hb7 (by omega) hwG.out
          rw [← hdg.out, ← range_snoc] at own7
          have own7' := hidIt own7
          clear own7 own6 own5 p6 hb7 p5 e0 e1
          have e0 := p7.c0
          have e1 := p7.c1
          go_wp2_with (fail)
          refine (d2.out _).mono ?_
          rintro e w8 ⟨rfl, hb8⟩
          have p8 := hidIt (p7.next hb8)
          have own8 := hidIt (own_belowI own7'.out hb8)
          have hst : Hid (z + (l - d) = Ot.ckTo b xs (k + 1)) := by show _ = _; rw [← hz.out, ← hll.out, ← hdg.out]; rfl
          have hpl2 := hpl.out
          clear hb8 p7 own7' e0 e1 hdg hz
          go_wp2_with (fail)
          go_roundw
          case rel => exact ⟨k + 1, by go_num, by omega, by rw [← hst.out]; go_num, p8.out, own8.out⟩
          case measure => simp [intOf]; omega
    · have hkm : Hid (k = m) := by show _ = _; omega
      go_wp2_with (fail)
      refine (d1.out _).mono ?_
      rintro e w5 ⟨rfl, hb5⟩
      have p5 := hS.next hb5
      have own5 := own_belowI hown hb5
      have hzk : Hid (Ot.ck b s xs = z) := by show _ = _; rw [← hz.out, hkm.out, ← hmn.out]; rfl
      have hlist : Hid ((List.range m).map (Ot.dg b xs) = (List.range m).map (Ot.dgs b s xs)) := by
        show _ = _
        apply List.map_congr_left
        intro i hi
        have hi2 := List.mem_range.1 hi
        unfold Ot.dgs
        rw [if_pos (by rw [hmn.out]; exact hi2)]
      rw [hkm.out, hlist.out] at own5
      have own5' := hidIt own5
      clear hS hown hb5 e0 e1 own5 hz hlist
      have e0 := p5.c0
      have e1 := p5.c1
      go_wp2_with (fail)
      refine (d3.out _).mono ?_
      rintro e w6 ⟨rfl, hb6⟩
      have p6 := p5.next hb6
      have own6 := hidIt (own_belowI own5'.out hb6)
      clear hb6 p5 own5' e0 e1 hlt hk hkm
      obtain ⟨wo, hwo⟩ : ∃ wo, Hid (wo = wr) := ⟨_, rfl⟩
      have c10 : 1 ≤ (c : Int) := by omega
      go_wp2_with (fail)
      go_loopw [10, 5] (fun i v wr => ∃ j : Nat, i = .int .i64 ((c : Int) - 1 - (j : Int)) ∧ j ≤ c ∧ PS w G (b : Int) (s : Int) wr ∧ wr.ownsRow (G + 1) 3 1 v (m + j) (ivals ((List.range (m + j)).map (Ot.dgs b s xs)))) (fun i _ _ => (intOf i + 1).toNat)
      case atStart => exact ⟨0, by go_num, by omega, p6, own6.out⟩
      case round =>
        obtain ⟨j, rfl, hj, hS, hown⟩ := hrel
        clear p6 own6
        have e0 := hS.c0
        have e1 := hS.c1
        by_cases hlt : j < c
        · obtain ⟨i, hi⟩ : ∃ i, Hid (c - 1 - j = i) := ⟨_, rfl⟩
          have hie : (c : Int) - 1 - (j : Int) = (i : Int) := by have := hi.out; omega
          have hi9 : i ≤ 8 := by have := hi.out; omega
          have hib : Hid (i * b ≤ 16) := Nat.le_trans (Nat.mul_le_mul_right b (show i ≤ c - 1 by have := hi.out; omega)) hshh.out
          rw [hie]
          have hS' := hidIt hS
          have hown' := hidIt hown
          clear hS hown
          obtain ⟨wp, rfl⟩ : ∃ wp : World, wp = wr := ⟨_, rfl⟩
          go_wp2_with (fail)
          go_loopw [12, 11] (fun q x w3 => ∃ t : Nat, q = .int .i64 (t : Int) ∧ t ≤ i ∧ x = .int .i64 ((2 ^ (t * b) : Nat) : Int) ∧ PS w G (b : Int) (s : Int) w3 ∧ Below wp.heap.size wp w3) (fun q _ _ => i - (intOf q).toNat)
          case atStart => exact ⟨0, rfl, by omega, by rw [Nat.zero_mul]; rfl, hS'.out, Below.refl _ _⟩
          case round =>
            obtain ⟨t, rfl, ht, rfl, hS3, hb3⟩ := hrel
            clear e0 e1
            have e0 := hS3.c0
            have e1 := hS3.c1
            by_cases htl : t < i
            · obtain ⟨x, hxx⟩ : ∃ x : Nat, Hid ((2 : Nat) ^ (t * b) = x) := ⟨2 ^ (t * b), hidIt rfl⟩
              obtain ⟨x', hx'⟩ : ∃ x' : Nat, Hid ((2 : Nat) ^ ((t + 1) * b) = x') := ⟨2 ^ ((t + 1) * b), hidIt rfl⟩
              have hxp : x * p = x' := by rw [← hxx.out, ← hx'.out, hpw.out, ← Nat.pow_add, Nat.succ_mul]
              have hx'b : x' ≤ 65536 := by
                rw [← hx'.out]
                exact Nat.pow_le_pow_right (n := 2) (by omega) (Nat.le_trans (Nat.mul_le_mul_right b (show t + 1 ≤ i by omega)) hib.out)
              have k5 : (x : Int) * (p : Int) = (x' : Int) := by rw [← hxp]; push_cast; rfl
              have hS4 := hidIt hS3
              have hb4 := hidIt hb3
              rw [hxx.out]
              clear hS3 hb3 hxx hxp
              go_wp2_with (fail)
              refine (d2.out _).mono ?_
              rintro e w9 ⟨rfl, hb9⟩
              have p9 := hidIt (hS4.out.next hb9)
              have H9 := hidIt (below_then hb4.out hb9)
              clear hb9 hS4 hb4 e0 e1
              go_wp2_with (fail)
              go_roundw
              case rel => exact ⟨t + 1, by go_num, by omega, by rw [hx'.out], p9.out, H9.out⟩
              case measure => simp [intOf]; omega
            · have hti : Hid (t = i) := by show _ = _; omega
              obtain ⟨x, hxx⟩ : ∃ x : Nat, Hid ((2 : Nat) ^ (t * b) = x) := ⟨2 ^ (t * b), hidIt rfl⟩
              have hx1 : 1 ≤ x := by rw [← hxx.out]; exact Nat.two_pow_pos _
              have hxb : x ≤ 65536 := by
                rw [← hxx.out]
                exact Nat.pow_le_pow_right (n := 2) (by omega) (show t * b ≤ 16 by rw [hti.out]; exact hib.out)
              rw [hxx.out]
              obtain ⟨y, hy⟩ : ∃ y : Nat, Hid (z / x = y) := ⟨_, rfl⟩
              obtain ⟨v, hv⟩ : ∃ v : Nat, Hid (y % p = v) := ⟨_, rfl⟩
              have hdg : Hid (Ot.dgs b s xs (m + j) = v) := by
                show _ = _
                unfold Ot.dgs
                rw [if_neg (by rw [hmn.out]; omega), hzk.out, hn.out, show n - 1 - (m + j) = i by have := hnm.out; have := hi.out; omega, ← hti.out, hxx.out, hy.out, ← hpw.out, hv.out]
              have hyz : y ≤ z := by rw [← hy.out]; exact Nat.div_le_self _ _
              have k1 : (z : Int) / (x : Int) = (y : Int) := by rw [← hy.out]; push_cast; rfl
              have k2 : (z : Int).tdiv (x : Int) = (y : Int) := by rw [Int.tdiv_eq_ediv_of_nonneg (by omega)]; exact k1
              have k3 : (y : Int) % (p : Int) = (v : Int) := by rw [← hv.out]; push_cast; rfl
              have k4 : (y : Int).tmod (p : Int) = (v : Int) := by rw [Int.tmod_eq_emod_of_nonneg (by omega)]; exact k3
              have hvp : v < p := by rw [← hv.out]; exact Nat.mod_lt _ (by omega)
              have k5 : IntKind.i64.wrap (y : Int) = (y : Int) := IntWalk.i64_in _ (by omega)
              have k6 : IntKind.i64.wrap (v : Int) = (v : Int) := IntWalk.i64_in _ (by omega)
              have own3 := own_belowI hown'.out hb3
              have hwr3 : Hid (G + 1 ≤ wr.heap.size) := bytes_lt hS3.c0
              have n1 : ¬ (x : Int) = 0 := by omega
              have n2 : ((x : Int) == 0) = false := by simp; omega
              have n3 : ¬ (p : Int) = 0 := by omega
              have n4 : ((p : Int) == 0) = false := by simp; omega
              have n5 : ¬ x = 0 := by omega
              have n6 : ¬ p = 0 := by omega
              have hmj : m + j ≤ 1000 := by omega
              obtain ⟨mj, hmje⟩ : ∃ mj, Hid (m + j = mj) := ⟨_, rfl⟩
              rw [hmje.out] at own3 hdg hmj
              clear hxx hy hv hti hb3 hown' hS' ht hib
              go_wp2_with (fail)
              go_region_held3 (fun W' => PS w G (b : Int) (s : Int) W' ∧ W'.cell? ⟨G, 0, none⟩ = some (.int .i64 (b : Int)) ∧ W'.cell? ⟨G, 1, none⟩ = some (.int .i64 (s : Int)))
                (first
                  | exact PS.all (by assumption)
                  | (go_split_ands; exact PS.all (by assumption))
                  | (go_split_ands; exact PS.all (PS.drew (by assumption)))
                  | (go_split_ands; exact PS.all (PS.new (by assumption) _))
                  | (go_split_ands; exact PS.all (PS.behind (by assumption) (by assumption)))
                  | (go_split_ands; exact PS.all (PS.nextB (by assumption) hb12 (Nat.lt_succ_self _) hwG.out)))
                (first
                  | (go_at_call 43; (with_reducible refine Calls.mono (d2.out _) ?_); rintro e w11 ⟨rfl, hb11⟩)
                  | (refine step_snoc_int _ rfl _ _ rfl (G + 1) _ mj ((List.range mj).map (Ot.dgs b s xs)) rfl (own_belowI own3 (below_then (Below.refl _ _).drew (below_then hb11 ((Below.refl _ _).alloc (Nat.le_refl _) _)))) w11.heap.size v rfl (int_new _ _) (by omega) (Nat.le_trans hwr3.out (Nat.le_trans hb11.size (by simp))) ?_; intro v12 w12 own12 hb12))
              all_goals
                go_split_ands
                rw [← hdg.out, ← range_snoc] at own12
                have own13 := hidIt own12
                have hS12 : PS w G (b : Int) (s : Int) w12 := by assumption
                have p13 := hidIt hS12
                clear hS12 own12 hb12 own3 hS3 e0 e1
                go_wp2_with (fail)
                go_roundw
                case rel => exact ⟨j + 1, by have := hi.out; show Value.int .i64 _ = Value.int .i64 _; congr 1; omega, by omega, p13.out, by have := own13.out; rw [← hmje.out] at this; exact this⟩
                case measure => simp [intOf]
        · have hjc : Hid (j = c) := by show _ = _; omega
          have hie : (c : Int) - 1 - (j : Int) = -1 := by omega
          rw [hie]
          have own3 := hown
          rw [hjc.out, ← hnm.out] at own3
          obtain ⟨a, cap, rfl, hcap, hI, hfr⟩ := owned_ints own3 (by simp)
          have hfr2 : Hid (∀ x, a = some x → w.heap.size ≤ x.block) := fun x hx => by have h1 := hfr x hx; have h2 := hwG.out; omega
          have hI2 : Hid (Ints wr a n (Ot.dgs b s xs)) := fun i hi => by
            obtain ⟨b', o', h1, h2⟩ := hI i (by simpa using hi)
            refine ⟨b', o', h1, ?_⟩
            rw [h2]
            show some (Value.int .i64 ((((List.range n).map (Ot.dgs b s xs)).getD i 0 : Nat) : Int)) = _
            rw [List.getD_eq_getElem?_getD, List.getElem?_map, List.getElem?_range hi]; rfl
          have HB := hidIt hS.bel
          have hln : ((List.range n).map (Ot.dgs b s xs)).length = n := by simp
          rw [hln] at hcap
          rw [hln]
          clear hS hown own3 hI hln hie hjc e0 e1 hfr
          go_wp2_with (fail)
          go_ret
          exact ⟨⟨a, cap, rfl, hI2.out, hcap, hfr2.out⟩, HB.out⟩
end Go.Proofs.YtegfbmekpmdcaaaDoor
namespace Go.Proofs.YtegfbmekpmdcaaaDoor
open Go.RowKit
/-- what the first loop has put into the list -/
structure S1 (A B : Nat → ByteArray) (I : Nat → Nat → ByteArray) (l i k : Nat) (L : List ByteArray) : Prop where
  sz : ∀ x ∈ L, x.size ≤ 9000
  ln : L.length ≤ 600 * i + 2 * k
  ma : ∀ i', i' < i ∨ (i' = i ∧ 0 < k) → A i' ∈ L
  mb : ∀ i', i' < i ∨ (i' = i ∧ 0 < k) → B i' ∈ L
  mi : ∀ i' j, j < l → i' < i ∨ (i' = i ∧ j + 1 < k) → I i' j ∈ L
theorem S1.zero (A B : Nat → ByteArray) (I : Nat → Nat → ByteArray) (l : Nat) : S1 A B I l 0 0 [] :=
  ⟨fun x h => by simp at h, by simp, fun i h => by omega, fun i h => by omega, fun i j _ h => by omega⟩
theorem S1.begin {A B : Nat → ByteArray} {I : Nat → Nat → ByteArray} {l i : Nat} {L : List ByteArray} (h : S1 A B I l i 0 L) (ha : (A i).size ≤ 9000) (hb : (B i).size ≤ 9000) : S1 A B I l i 1 (L ++ [A i, B i]) := by
  refine ⟨fun x hx => ?_, ?_, fun i' hi => ?_, fun i' hi => ?_, fun i' j hj hi => ?_⟩
  · rcases List.mem_append.1 hx with h1 | h1
    · exact h.sz x h1
    · simp at h1; rcases h1 with rfl | rfl
      · exact ha
      · exact hb
  · have := h.ln; simp; omega
  · by_cases e : i' = i
    · subst e; simp
    · exact List.mem_append_left _ (h.ma i' (by omega))
  · by_cases e : i' = i
    · subst e; simp
    · exact List.mem_append_left _ (h.mb i' (by omega))
  · exact List.mem_append_left _ (h.mi i' j hj (by omega))
theorem S1.step {A B : Nat → ByteArray} {I : Nat → Nat → ByteArray} {l i j : Nat} {L : List ByteArray} (h : S1 A B I l i (j + 1) L) (ha : (I i j).size ≤ 9000) : S1 A B I l i (j + 2) (L ++ [I i j]) := by
  refine ⟨fun x hx => ?_, ?_, fun i' hi => ?_, fun i' hi => ?_, fun i' k hk hi => ?_⟩
  · rcases List.mem_append.1 hx with h1 | h1
    · exact h.sz x h1
    · simp at h1; subst h1; exact ha
  · have := h.ln; simp; omega
  · exact List.mem_append_left _ (h.ma i' (by omega))
  · exact List.mem_append_left _ (h.mb i' (by omega))
  · by_cases e : i' = i ∧ k = j
    · obtain ⟨rfl, rfl⟩ := e; simp
    · exact List.mem_append_left _ (h.mi i' k hk (by omega))
theorem S1.next {A B : Nat → ByteArray} {I : Nat → Nat → ByteArray} {l i : Nat} {L : List ByteArray} (h : S1 A B I l i (l + 1) L) (hl : l ≤ 255) : S1 A B I l (i + 1) 0 L :=
  ⟨h.sz, by have := h.ln; omega, fun i' hi => h.ma i' (by omega), fun i' hi => h.mb i' (by omega), fun i' j hj hi => h.mi i' j hj (by omega)⟩
/-- what the second loop has put into the list -/
structure S2 (L0 : List ByteArray) (I : Nat → Nat → ByteArray) (F : Nat → Nat) (l i k : Nat) (L : List ByteArray) : Prop where
  sz : ∀ x ∈ L, x.size ≤ 9000
  ln : L.length ≤ L0.length + 600 * i + 2 * k
  sub : ∀ x ∈ L0, x ∈ L
  mi : ∀ i' j, j < l → F i' ≤ j → i' < i ∨ (i' = i ∧ j < k) → I i' j ∈ L
theorem S2.zero {L0 : List ByteArray} (I : Nat → Nat → ByteArray) (F : Nat → Nat) (l : Nat) (h : ∀ x ∈ L0, x.size ≤ 9000) : S2 L0 I F l 0 0 L0 :=
  ⟨h, by omega, fun _ h => h, fun i j _ _ h => by omega⟩
theorem S2.start {L0 : List ByteArray} {I : Nat → Nat → ByteArray} {F : Nat → Nat} {l i : Nat} {L : List ByteArray} (h : S2 L0 I F l i 0 L) : S2 L0 I F l i (F i) L :=
  ⟨h.sz, by have := h.ln; omega, h.sub, fun i' j hj hf hi => h.mi i' j hj hf (by
    rcases hi with h1 | ⟨rfl, h1⟩
    · exact Or.inl h1
    · omega)⟩
theorem S2.step {L0 : List ByteArray} {I : Nat → Nat → ByteArray} {F : Nat → Nat} {l i j : Nat} {L : List ByteArray} (h : S2 L0 I F l i j L) (ha : (I i j).size ≤ 9000) : S2 L0 I F l i (j + 1) (L ++ [I i j]) := by
  refine ⟨fun x hx => ?_, ?_, fun x hx => List.mem_append_left _ (h.sub x hx), fun i' k hk hf hi => ?_⟩
  · rcases List.mem_append.1 hx with h1 | h1
    · exact h.sz x h1
    · simp at h1; subst h1; exact ha
  · have := h.ln; simp; omega
  · by_cases e : i' = i ∧ k = j
    · obtain ⟨rfl, rfl⟩ := e; simp
    · exact List.mem_append_left _ (h.mi i' k hk hf (by omega))
theorem S2.next {L0 : List ByteArray} {I : Nat → Nat → ByteArray} {F : Nat → Nat} {l i k : Nat} {L : List ByteArray} (h : S2 L0 I F l i k L) (hl : l ≤ k) (hk : k ≤ 255) : S2 L0 I F l (i + 1) 0 L :=
  ⟨h.sz, by have := h.ln; omega, h.sub, fun i' j hj hf hi => h.mi i' j hj hf (by omega)⟩
/-- the list that is returned -/
structure SuG (A B : Nat → ByteArray) (I J : Nat → Nat → ByteArray) (F : Nat → Nat) (l n : Nat) (e1 e2 : ByteArray) (L : List ByteArray) : Prop where
  sz : ∀ x ∈ L, x.size ≤ 9000
  ln : L.length ≤ 1000000
  ma : ∀ i, i < n → A i ∈ L
  mb : ∀ i, i < n → B i ∈ L
  mi : ∀ i j, i < n → j < l → I i j ∈ L
  mj : ∀ i j, i < n → j < l → F i ≤ j → J i j ∈ L
  m1 : e1 ∈ L
  m2 : e2 ∈ L
theorem S2.done {A B : Nat → ByteArray} {I J : Nat → Nat → ByteArray} {F : Nat → Nat} {l n : Nat} {L0 L : List ByteArray} {e1 e2 : ByteArray} (h0 : S1 A B I l n 0 L0) (h : S2 L0 J F l n 0 L) (hn : n ≤ 300) (h1 : e1.size ≤ 9000) (h2 : e2.size ≤ 9000) : SuG A B I J F l n e1 e2 (L ++ [e1, e2]) := by
  refine ⟨fun x hx => ?_, ?_, fun i hi => List.mem_append_left _ (h.sub _ (h0.ma i (Or.inl hi))), fun i hi => List.mem_append_left _ (h.sub _ (h0.mb i (Or.inl hi))), fun i j hi hj => List.mem_append_left _ (h.sub _ (h0.mi i j hj (Or.inl hi))), fun i j hi hj hf => List.mem_append_left _ (h.mi i j hj hf (Or.inl hi)), by simp, by simp⟩
  · rcases List.mem_append.1 hx with h3 | h3
    · exact h.sz x h3
    · simp at h3; rcases h3 with rfl | rfl
      · exact h1
      · exact h2
  · have := h.ln; have := h0.ln; simp; omega
/-- a row of strings of the call's own, beside a list of numbers -/
structure P2 (base : Nat) (w1 : World) (ad : Option Addr) (n : Nat) (F : Nat → Nat) (v : Value) (k : Nat) (L : List ByteArray) (W : World) : Prop where
  len : k = L.length
  own : W.ownsRow base 9 1 v k (svals L)
  bel : Below base w1 W
  dg : Ints W ad n F
  ap : ∀ x, ad = some x → v.ownBlock ≠ some x.block
  al : ∀ x, ad = some x → x.block < W.heap.size
theorem P2.next {base n k : Nat} {w1 W W' : World} {ad : Option Addr} {F : Nat → Nat} {v : Value} {L : List ByteArray} (h : P2 base w1 ad n F v k L W) (hB : base ≤ W.heap.size) (hb : Below W.heap.size W W') : P2 base w1 ad n F v k L W' :=
  ⟨h.len, own_belowS h.own hb, h.bel.trans (hb.mono hB), h.dg.below hb, h.ap, fun x hx => Nat.lt_of_lt_of_le (h.al x hx) hb.size⟩
theorem P2.size {base n k : Nat} {w1 W : World} {ad : Option Addr} {F : Nat → Nat} {v : Value} {L : List ByteArray} (h : P2 base w1 ad n F v k L W) (h1 : base ≤ w1.heap.size) : base ≤ W.heap.size := Nat.le_trans h1 h.bel.size
theorem P2.grow {base n k k' : Nat} {w1 W W' : World} {ad : Option Addr} {F : Nat → Nat} {v v' : Value} {L L' : List ByteArray} (h : P2 base w1 ad n F v k L W) (hB : base ≤ W.heap.size) (hk : k' = L'.length) (ho : W'.ownsRow base 9 1 v' k' (svals L')) (hg : W.grownBy W' v.ownBlock) (hat : v'.ownBlock = v.ownBlock ∨ v'.ownBlock = some W.heap.size) : P2 base w1 ad n F v' k' L' W' := by
  refine ⟨hk, ho, h.bel.grown hg hB (fun p hp => (h.own.lt p hp).1), fun j hj => ?_, fun x hx => ?_, fun x hx => Nat.lt_of_lt_of_le (h.al x hx) hg.size⟩
  · obtain ⟨b, o, e1, e2⟩ := h.dg j hj
    refine ⟨b, o, e1, ?_⟩
    exact hg.cell e2 (fun e => h.ap _ e1 e.symm)
  · rcases hat with e | e
    · rw [e]; exact h.ap x hx
    · rw [e]
      intro e2
      have := h.al x hx
      simp at e2
      omega
/-- append of a string, told with the place of the new row -/
theorem wp_snoc_at (w : World) {o : Oper} {act : Act} {K : Act → World → Prop} {Q : Exit → Act → World → Prop} (s x : Operand)
    (ho : o.op = .call { callee := .builtin .append, args := #[s, x], argTypes := #[47, 47] })
    (base : Nat) (v : Value) (n : Nat) (ss : List ByteArray) (hs : act.eval s = v) (hown : w.ownsRow base 9 1 v n (svals ss))
    (q m : Nat) (st : List ByteArray) (hx : act.eval x = .slice (some ⟨q, 0, none⟩) m m) (hm : m = st.length) (hc : ∀ j u, (svals st)[j]? = some u → w.cell? ⟨q, j, none⟩ = some u) (hbig : n ≤ 1000000000) (hm9 : m ≤ 2) (hbase : base ≤ w.heap.size)
    (h : ∀ v' w', w'.ownsRow base 9 1 v' (n + m) (svals (ss ++ st)) → w.grownBy w' v.ownBlock → (v'.ownBlock = v.ownBlock ∨ v'.ownBlock = some w.heap.size) → K (act.put o.dst v') w') : Oper.wp Tryd.prog o act w K Q := by
  obtain ⟨i0, hi, hz0, hz1, hz2⟩ := info_parts infoStr
  obtain ⟨v', w', hr, h2, h3, _, h5⟩ := run_append_own_at (P := Tryd.prog) w base 47 o.type 9 i0 (.string ByteArray.empty) 1 16 Tryd.underlying47 hi hz0 hz1 hz2 rfl (by decide) v n (svals ss) hown ⟨q, 0, none⟩ m m (svals st) (by rw [svals_len]; omega) (fun j u hu => by rw [add_lit', Nat.zero_add]; exact hc j u hu) (fun u hu => svals_one u hu) (by unfold maxLen; omega) (by omega) hbase
  unfold Oper.wp execOp
  simp only [ho, resolve, invoke, builtin, Sem.run_bind, Sem.run_pure, Result.andThen_ok, List.map_toArray, List.map_cons, List.map_nil, hs, hx, hr]
  rw [svals_append] at h2
  exact h v' w' h2 h3 h5
theorem wpList_snoc_at (w : World) {ops : Array Oper} {rest : List Oper} {o : Oper} {act : Act} {Q : Exit → Act → World → Prop} (hgd : o.guard = none) (s x : Operand)
    (ho : o.op = .call { callee := .builtin .append, args := #[s, x], argTypes := #[47, 47] })
    (base : Nat) (v : Value) (n : Nat) (ss : List ByteArray) (hs : act.eval s = v) (hown : w.ownsRow base 9 1 v n (svals ss))
    (q m : Nat) (st : List ByteArray) (hx : act.eval x = .slice (some ⟨q, 0, none⟩) m m) (hm : m = st.length) (hc : ∀ j u, (svals st)[j]? = some u → w.cell? ⟨q, j, none⟩ = some u) (hbig : n ≤ 1000000000) (hm9 : m ≤ 2) (hbase : base ≤ w.heap.size)
    (h : ∀ v' w', w'.ownsRow base 9 1 v' (n + m) (svals (ss ++ st)) → w.grownBy w' v.ownBlock → (v'.ownBlock = v.ownBlock ∨ v'.ownBlock = some w.heap.size) → wpList Tryd.prog ops Q rest (act.put o.dst v') w') : wpList Tryd.prog ops Q (o :: rest) act w :=
  wpList_plain hgd fun _ hK => wp_snoc_at w s x ho base v n ss hs hown q m st hx hm hc hbig hm9 hbase fun v' w' h1 h2 h3 => hK _ _ (h v' w' h1 h2 h3)
theorem step_snoc_at (w : World) {ops : Array Oper} {o : Oper} {act : Act} {K : Act → World → Prop} {Q : Exit → Act → World → Prop} {E : Prop} (hgd : o.guard = none) (s x : Operand)
    (ho : o.op = .call { callee := .builtin .append, args := #[s, x], argTypes := #[47, 47] })
    (base : Nat) (v : Value) (n : Nat) (ss : List ByteArray) (hs : act.eval s = v) (hown : w.ownsRow base 9 1 v n (svals ss))
    (q m : Nat) (st : List ByteArray) (hx : act.eval x = .slice (some ⟨q, 0, none⟩) m m) (hm : m = st.length) (hc : ∀ j u, (svals st)[j]? = some u → w.cell? ⟨q, j, none⟩ = some u) (hbig : n ≤ 1000000000) (hm9 : m ≤ 2) (hbase : base ≤ w.heap.size)
    (h : ∀ v' w', w'.ownsRow base 9 1 v' (n + m) (svals (ss ++ st)) → w.grownBy w' v.ownBlock → (v'.ownBlock = v.ownBlock ∨ v'.ownBlock = some w.heap.size) → K (act.put o.dst v') w') :
    if Region.wanted o (yielded ops act.tmps) = true then Oper.wp Tryd.prog o act w K Q else E := by
  have hw : Region.wanted o (yielded ops act.tmps) = true := by simp [Region.wanted, hgd]
  rw [if_pos hw]
  exact wp_snoc_at w s x ho base v n ss hs hown q m st hx hm hc hbig hm9 hbase h
theorem one_new (w : World) (x : ByteArray) : ∀ j u, (svals [x])[j]? = some u → (w.alloc (.cells #[.string x] 9)).cell? ⟨w.heap.size, j, none⟩ = some u := by
  intro j u hu
  match j, hu with
  | 0, hu => simp [svals] at hu; subst hu; exact str_new w x
theorem two_new (w : World) (x y : ByteArray) : ∀ j u, (svals [x, y])[j]? = some u → (w.alloc (.cells #[.string x, .string y] 9)).cell? ⟨w.heap.size, j, none⟩ = some u := by
  intro j u hu
  match j, hu with
  | 0, hu => simp [svals] at hu; subst hu; rw [cell_of_row _ _ _ _ _ _ (heap_alloc_new w _)]; rfl
  | 1, hu => simp [svals] at hu; subst hu; rw [cell_of_row _ _ _ _ _ _ (heap_alloc_new w _)]; rfl
end Go.Proofs.YtegfbmekpmdcaaaDoor
namespace Go.Proofs.YtegfbmekpmdcaaaDoor
open Go.RowKit
theorem sumS_str (us : List Nat) (h : ∀ x ∈ us, x < 256) : sumS (str us) = str (Sh.sum us) := by unfold sumS; rw [ofStr_str us h]
theorem str_inj' {a b : List Nat} (ha : ∀ x ∈ a, x < 256) (hb : ∀ x ∈ b, x < 256) (h : str a = str b) : a = b := by rw [← ofStr_str a ha, ← ofStr_str b hb, h]
theorem ofStr_inj {a b : ByteArray} (h : ofStr a = ofStr b) : a = b := by rw [← str_ofStr a, ← str_ofStr b, h]
theorem inp_lt (i j : Nat) (y : ByteArray) : ∀ x ∈ Ot.inp i j y, x < 256 := by
  intro x hx
  unfold Ot.inp at hx
  rcases List.mem_append.1 hx with h | h
  · exact (List.mem_append.1 h).elim (tx_lt (by decide) i x) (En.enc_all j x)
  · exact ofStr_lt _ x h
theorem inp_size' (i j : Nat) (x : ByteArray) (hx : x.size = 32) : (str (Ot.inp i j x)).size ≤ 60 := by
  rw [str_size]; unfold Ot.inp
  have h1 := (En.enc_len i).2
  have h2 := (En.enc_len j).2
  rw [List.length_append, List.length_append, List.length_append, ofStr_len, hx]
  have : Ot.txChain.length = 5 := rfl
  omega
theorem inp_ne (i j : Nat) {x y : ByteArray} (h : x ≠ y) : str (Ot.inp i j x) ≠ str (Ot.inp i j y) := by
  intro e
  have := str_inj' (inp_lt i j x) (inp_lt i j y) e
  unfold Ot.inp at this
  exact h (ofStr_inj (List.append_cancel_left this))
theorem inp_sum (i j : Nat) (x : ByteArray) : sumS (str (Ot.inp i j x)) = Ot.stp i j x := by rw [sumS_str _ (inp_lt i j x), Ot.stp_inp]
/-- two values of a chain that differ and lead to one value meet on the way -/
theorem chn_meet (i d : Nat) : ∀ (m : Nat) (x y : ByteArray), x ≠ y → Ot.chn i d m x = Ot.chn i d m y → ∃ t, t < m ∧ Ot.chn i d t x ≠ Ot.chn i d t y ∧ Ot.stp i (d + t) (Ot.chn i d t x) = Ot.stp i (d + t) (Ot.chn i d t y)
  | 0, x, y, h, e => absurd e h
  | m + 1, x, y, h, e => by
    by_cases h2 : Ot.chn i d m x = Ot.chn i d m y
    · obtain ⟨t, ht, h3⟩ := chn_meet i d m x y h h2
      exact ⟨t, by omega, h3⟩
    · exact ⟨m, by omega, h2, e⟩
theorem endsTo_inj {E F : Nat → ByteArray} : ∀ n, (∀ i, i < n → (E i).size = 32) → (∀ i, i < n → (F i).size = 32) → Ot.endsTo E n = Ot.endsTo F n → ∀ i, i < n → E i = F i
  | 0, _, _, _ => fun i h => by omega
  | n + 1, hE, hF, h => by
    unfold Ot.endsTo at h
    have hl : (Ot.endsTo E n).length = (Ot.endsTo F n).length := by rw [Ot.endsTo_len n fun i hi => hE i (by omega), Ot.endsTo_len n fun i hi => hF i (by omega)]
    have h2 := List.append_inj h hl
    intro i hi
    by_cases e : i = n
    · subst e; exact ofStr_inj h2.2
    · exact endsTo_inj n (fun i hi => hE i (by omega)) (fun i hi => hF i (by omega)) h2.1 i (by omega)
/-- the parts are another way to the key: two strings of the list meet -/
theorem chain_coll {ks : List Nat} {F : Nat → Nat} {ss : List ByteArray} {L : List ByteArray} {l n i : Nat} {e1 e2 : ByteArray} {A B : Nat → ByteArray} (hG : SuG A B (fun i j => str (Ot.inp i j (Ot.vl ks i j))) (fun i j => str (Ot.inp i j (Ot.chn i (F i) (j - F i) (ss.getD i ByteArray.empty)))) F l n e1 e2 L) (hi : i < n) (hF : F i ≤ l)
    (hne : ss.getD i ByteArray.empty ≠ Ot.vl ks i (F i)) (he : Ot.chn i (F i) (l - F i) (ss.getD i ByteArray.empty) = Ot.vl ks i l) : Coll L := by
  rw [← Ot.vl_goes ks i (F i) l hF] at he
  obtain ⟨t, ht, h1, h2⟩ := chn_meet i (F i) (l - F i) _ _ hne he
  have m1 := hG.mi i (F i + t) hi (by omega)
  have m2 := hG.mj i (F i + t) hi (by omega) (by omega)
  have e3 : Ot.vl ks i (F i + t) = Ot.chn i (F i) t (Ot.vl ks i (F i)) := by
    have := Ot.vl_goes ks i (F i) (F i + t) (by omega)
    rw [show F i + t - F i = t by omega] at this
    exact this.symm
  simp only [show F i + t - F i = t by omega] at m2
  simp only [e3] at m1
  exact ⟨_, m2, _, m1, inp_ne _ _ h1, by rw [inp_sum, inp_sum]; exact h2⟩
theorem ends_coll {ks : List Nat} {b s : Nat} {F : Nat → Nat} {ss ST : List ByteArray} {L : List ByteArray} {n : Nat} {A B : Nat → ByteArray} {I J : Nat → Nat → ByteArray}
    (hG : SuG A B I J F (Ot.las b) n (str (Ot.endsTo (Ot.goE b (fun _ => 0) ST) n)) (str (Ot.endsTo (Ot.goE b F ss) n)) L) (hn : n = Ot.tot b s) (hST : ∀ i, i < n → ST.getD i ByteArray.empty = Ot.sec ks i) (h32 : ∀ i, i < n → (ss.getD i ByteArray.empty).size = 32)
    (he : Ot.rcv b s F ss = Ot.pub b s ks) : Coll L ∨ ∀ i, i < n → Ot.chn i (F i) (Ot.las b - F i) (ss.getD i ByteArray.empty) = Ot.vl ks i (Ot.las b) := by
  have hp : Ot.pub b s ks = str (Sh.sum (Ot.endsTo (Ot.goE b (fun _ => 0) ST) n)) := by
    unfold Ot.pub
    rw [hn, Ot.endsTo_congr (E := Ot.goE b (fun _ => 0) ST) (F := fun i => Ot.vl ks i (Ot.las b)) (Ot.tot b s) (fun i hi => by unfold Ot.goE; rw [hST i (by omega)]; rfl)]
  rw [Ot.rcv_goE, hp, ← hn] at he
  by_cases h : Ot.endsTo (Ot.goE b F ss) n = Ot.endsTo (Ot.goE b (fun _ => 0) ST) n
  · right
    intro i hi
    have := endsTo_inj n (fun i hi => Ot.chn_size _ _ _ _ (h32 i hi)) (fun i hi => Ot.chn_size _ _ _ _ (by rw [hST i hi]; exact Ot.sec_size _ _)) h i hi
    unfold Ot.goE at this
    rw [this, hST i hi]; rfl
  · left
    refine ⟨_, hG.m2, _, hG.m1, fun e => h (str_inj' (Ot.endsTo_lt n) (Ot.endsTo_lt n) e), ?_⟩
    rw [sumS_str _ (Ot.endsTo_lt n), sumS_str _ (Ot.endsTo_lt n)]
    exact he
theorem enc_inj {j k : Nat} (hj : j < 256) (hk : k < 256) (h : En.enc j = En.enc k) : j = k := by
  unfold En.enc at h
  by_cases h1 : j < 128
  · rw [En.encF_last _ _ h1] at h
    by_cases h2 : k < 128
    · rw [En.encF_last _ _ h2] at h; simpa using h
    · rw [En.encF_step 8 k (by omega), En.encF_last 8 (k / 128) (by omega)] at h; simp at h
  · rw [En.encF_step 8 j (by omega), En.encF_last 8 (j / 128) (by omega)] at h
    by_cases h2 : k < 128
    · rw [En.encF_last _ _ h2] at h; simp at h
    · rw [En.encF_step 8 k (by omega), En.encF_last 8 (k / 128) (by omega)] at h
      simp at h
      omega
theorem inp_ne2 (i : Nat) {j k : Nat} (hj : j < 256) (hk : k < 256) (hjk : j ≠ k) {x y : ByteArray} (hx : x.size = 32) (hy : y.size = 32) : str (Ot.inp i j x) ≠ str (Ot.inp i k y) := by
  intro e
  have h := str_inj' (inp_lt i j x) (inp_lt i k y) e
  unfold Ot.inp at h
  have h2 : En.enc j ++ ofStr x = En.enc k ++ ofStr y := List.append_cancel_left (show (Ot.txChain ++ En.enc i) ++ (En.enc j ++ ofStr x) = (Ot.txChain ++ En.enc i) ++ (En.enc k ++ ofStr y) by rw [← List.append_assoc, ← List.append_assoc]; exact h)
  have hl : (En.enc j).length = (En.enc k).length := by
    have := congrArg List.length h2
    rw [List.length_append, List.length_append, ofStr_len, ofStr_len, hx, hy] at this
    omega
  exact hjk (enc_inj hj hk (List.append_inj h2 hl).1)
theorem len_ne {x y : ByteArray} (h : x.size ≠ y.size) : x ≠ y := fun e => h (by rw [e])
/-- two steps of one chain with one value: two strings of the list meet -/
theorem step_coll {ks : List Nat} (hkl : ks.length ≤ 64) (hkb : ∀ x ∈ ks, x < 256) {F : Nat → Nat} {L : List ByteArray} {l n i d : Nat} {e1 e2 : ByteArray} {A : Nat → ByteArray} {J : Nat → Nat → ByteArray} (hl : l ≤ 255) (hi : i < n) (hn : n ≤ 127)
    (hG : SuG A (fun i => str (Hm.pad ks 92 ++ Sh.sum (Hm.pad ks 54 ++ (Ot.txSecret ++ [i])))) (fun i j => str (Ot.inp i j (Ot.vl ks i j))) J F l n e1 e2 L) (hf : F i < d) (hd : d ≤ l) (he : Ot.vl ks i d = Ot.vl ks i (F i)) : Coll L := by
  obtain ⟨q, rfl⟩ : ∃ q, d = q + 1 := ⟨d - 1, by omega⟩
  have m1 := hG.mi i q hi (by omega)
  have v1 : Ot.vl ks i (q + 1) = sumS (str (Ot.inp i q (Ot.vl ks i q))) := by rw [inp_sum]; unfold Ot.vl; show Ot.stp i (0 + q) _ = _; rw [Nat.zero_add]
  match hfi : F i with
  | 0 =>
    rw [hfi] at he
    have m2 := hG.mb i hi
    have hlt : ∀ x ∈ Hm.pad ks 92 ++ Sh.sum (Hm.pad ks 54 ++ (Ot.txSecret ++ [i])), x < 256 := by
      intro x hx
      rcases List.mem_append.1 hx with h | h
      · exact Hm.pad_lt hkb (by decide) x h
      · exact Sh.sum_lt _ x h
    have v2 : Ot.vl ks i 0 = sumS (str (Hm.pad ks 92 ++ Sh.sum (Hm.pad ks 54 ++ (Ot.txSecret ++ [i])))) := by
      rw [sumS_str _ hlt]
      show Ot.sec ks i = _
      unfold Ot.sec Hm.tag Hm.key
      rw [if_neg (by omega)]
      have : En.enc i = [i] := En.encF_last 9 i (by omega)
      rw [this]
    refine ⟨_, m1, _, m2, len_ne ?_, by rw [← v1, ← v2]; exact he⟩
    have h1 := inp_size' i q (Ot.vl ks i q) (Ot.vl_size _ _ _)
    rw [str_size, str_size] at *
    rw [List.length_append, Hm.pad_len, Sh.sum_len]
    omega
  | f + 1 =>
    rw [hfi] at he hf
    have m2 := hG.mi i f hi (by omega)
    have v2 : Ot.vl ks i (f + 1) = sumS (str (Ot.inp i f (Ot.vl ks i f))) := by rw [inp_sum]; unfold Ot.vl; show Ot.stp i (0 + f) _ = _; rw [Nat.zero_add]
    exact ⟨_, m1, _, m2, inp_ne2 i (by omega) (by omega) (by omega) (Ot.vl_size _ _ _) (Ot.vl_size _ _ _), by rw [← v1, ← v2]; exact he⟩
end Go.Proofs.YtegfbmekpmdcaaaDoor
