import Derived.Test.YtegfbmekpmdcaaaDoorOn9
import Derived.Laws.Strings
namespace Go.Proofs.YtegfbmekpmdcaaaDoor
open Go.RowKit
theorem str_eq_of {a b : ByteArray} (h : ofStr a = ofStr b) : a = b := by rw [← str_ofStr a, h, str_ofStr]
theorem str_beq (a b : ByteArray) : (a.toList == b.toList) = decide (ofStr a = ofStr b) := by
  by_cases h : a = b
  · subst h; simp
  · have h1 : ¬ ofStr a = ofStr b := fun e => h (str_eq_of e)
    have h2 : ¬ a.toList = b.toList := fun e => h (by rw [ByteArray.toList_eq, ByteArray.toList_eq] at e; cases a; cases b; simp only [ByteArray.mk.injEq]; exact Array.toList_inj.1 e)
    simp [h1, h2]
/-- parameters in the box G and a slice of strings in the box G + 1 -/
theorem two_boxes (w : World) (b s : Int) (v : Value) : PS w w.heap.size b s ((w.alloc (.cells #[.int .i64 b, .int .i64 s] 25)).alloc (.cells #[v] 47)) ∧ ((w.alloc (.cells #[.int .i64 b, .int .i64 s] 25)).alloc (.cells #[v] 47)).cell? ⟨w.heap.size + 1, 0, none⟩ = some v := by
  refine ⟨(ps_new w b s _).new _, ?_⟩
  have := cell_of_row _ _ 0 _ _ _ (heap_alloc_new (w.alloc (.cells #[.int .i64 b, .int .i64 s] 25)) (.cells #[v] 47))
  rw [World.size_alloc] at this
  rw [this]; rfl
set_option maxRecDepth 100000 in
set_option maxHeartbeats 1000000 in
theorem recover_ok (b s : Nat) (ho : Ot.okB b s = true) (dig : ByteArray) (xs : List Nat) (hx : Hid (ofStr dig = xs)) (hsz : (dig.size : Int) = (s : Int)) (a : Option Addr) (len cap : Nat) (ss : List ByteArray) (hlen : len = ss.length) (hss : Hid (ss.length = Ot.tot b s)) (hall : Hid (∀ i, i < ss.length → (ss.getD i ByteArray.empty).size = 32)) (w : World) (hL : LaidH w) (hst : Strs w a ss) :
    Calls Tryd.prog 33 #[.agg #[.int .i64 (b : Int), .int .i64 (s : Int)], .string dig, .slice a len cap] w fun e w' => e = .returned (.tuple #[.string (Ot.rcv b s (Ot.dgs b s xs) ss), .int .i64 0]) ∧ Below w.heap.size w w' := by
  have hmf : ∀ (fn : Fn) (first cap : Array Value) (w : World), (Instr.makeFunc fn first cap).run Tryd.prog w = .ok (.func fn first cap) w := fun _ _ _ _ => rfl
  have hn2 := Ot.tot_bd b s ho
  have hob := hidIt ho
  have dx : Hid (∀ W, Calls Tryd.prog 14 #[.agg #[.int .i64 (b : Int), .int .i64 (s : Int)], .string dig] W fun e w' => DigOk W e w' (Ot.dgs b s xs) (Ot.tot b s) ∧ Below W.heap.size W w') := fun W => digits_ok b s ho dig xs hx hsz W
  have hFl : Hid (∀ i, Ot.dgs b s xs i ≤ Ot.las b) := fun i => Ot.dgs_le b s xs i
  obtain ⟨r, hr⟩ : ∃ r, Hid (Ot.rcv b s (Ot.dgs b s xs) ss = r) := ⟨_, rfl⟩
  rw [hr.out]
  have hr2 : Hid (str (Sh.sum (Ot.endsTo (fun i => Ot.chn i (Ot.dgs b s xs i) (Ot.las b - Ot.dgs b s xs i) (ss.getD i ByteArray.empty)) (Ot.tot b s))) = r) := hr.out
  obtain ⟨F, hF⟩ : ∃ F, Hid (Ot.dgs b s xs = F) := ⟨_, rfl⟩
  rw [hF.out] at dx hr2 hFl
  obtain ⟨n, hn⟩ : ∃ n, Hid (Ot.tot b s = n) := ⟨_, rfl⟩
  have hln : len = n := by rw [hlen, hss.out, hn.out]
  rw [hn.out] at dx hss hn2
  subst hln
  obtain ⟨bp, op, rfl, _⟩ := hst 0 (by have := hss.out; omega)
  have hlss := hidIt hlen
  have ha2 := hn2.1
  have hb2' := hn2.2
  have TB := two_boxes w (b : Int) (s : Int) (.slice (some ⟨bp, op, none⟩) len cap)
  clear ho hx hsz hlen hn2 hr hF
  go_enter Tryd.func33, Tryd.ntmps33
  go_wp2_with (fail)
  obtain ⟨w1, hw1⟩ : ∃ w1, Hid ((w.alloc (.cells #[.int .i64 (b : Int), .int .i64 (s : Int)] 25)).alloc (.cells #[.slice (some ⟨bp, op, none⟩) len cap] 47) = w1) := ⟨_, rfl⟩
  obtain ⟨G, hG⟩ : ∃ G, Hid (w.heap.size = G) := ⟨_, rfl⟩
  obtain ⟨P, hP⟩ : ∃ P, Hid (G + 1 = P) := ⟨_, rfl⟩
  rw [hw1.out, hG.out, hP.out] at TB
  try rw [hw1.out]
  try rw [hG.out]
  try rw [hP.out]
  obtain ⟨p1, pc1⟩ := TB
  refine (dx.out _).mono ?_
  rintro e w2 ⟨⟨gd, hgd, rfl, hB⟩, hb2⟩
  have p2 := p1.next hb2
  have pc2 : w2.cell? ⟨P, 0, none⟩ = some (.slice (some ⟨bp, op, none⟩) len cap) := (hb2.cell (p := ⟨P, 0, none⟩) (bytes_lt pc1)).trans pc1
  clear p1 pc1 hb2 hgd dx
  obtain ⟨w3, hw3⟩ : ∃ w3, Hid (w2.alloc (.cells #[.slice (some ⟨gd, 0, none⟩) len len] 27) = w3) := ⟨_, rfl⟩
  obtain ⟨D, hD⟩ : ∃ D, Hid (w2.heap.size = D) := ⟨_, rfl⟩
  have hbA : Below w2.heap.size w2 w3 := by rw [← hw3.out]; exact (Below.refl _ _).alloc (Nat.le_refl _) _
  have V3 : RVo w D G P gd len F (b : Int) (s : Int) bp op len cap ss w3 := by
    have p3 := p2.next hbA
    refine ⟨?_, hB.below hbA hB.lt, p3.c0, p3.c1, (hbA.cell (p := ⟨P, 0, none⟩) (bytes_lt pc2)).trans pc2, hst.below p3.bel, hL.below p3.bel hL.two, p3.bel⟩
    rw [← hw3.out, ← hD.out, cell_of_row _ _ _ _ _ _ (heap_alloc_new w2 _)]; rfl
  have e0 : (w2.alloc (.cells #[.slice (some ⟨gd, 0, none⟩) len len] 27)).cell? ⟨G, 0, none⟩ = some (.int .i64 (b : Int)) := by rw [hw3.out]; exact V3.c0
  have e1 : (w2.alloc (.cells #[.slice (some ⟨gd, 0, none⟩) len len] 27)).cell? ⟨G, 1, none⟩ = some (.int .i64 (s : Int)) := by rw [hw3.out]; exact V3.c1
  have e2 : (w2.alloc (.cells #[.slice (some ⟨gd, 0, none⟩) len len] 27)).cell? ⟨P, 0, none⟩ = some (.slice (some ⟨bp, op, none⟩) len cap) := by rw [hw3.out]; exact V3.pc
  clear p2 hbA hB hw1 pc2
  go_wp2_with (fail)
  rw [hw3.out]
  try rw [hD.out]
  clear e0 e1 e2 hw3
  go_loop [29] (fun i => ∃ k : Nat, i = .int .i64 (k : Int) ∧ k ≤ len) (fun i => len - (intOf i).toNat)
  case atStart => exact ⟨0, rfl, by omega⟩
  case round =>
    obtain ⟨k, rfl, hk⟩ := hrel
    by_cases hlt : k < len
    · obtain ⟨x, hx⟩ : ∃ x, Hid (ss.getD k ByteArray.empty = x) := ⟨_, rfl⟩
      have hx32 : (x.size : Int) = 32 := by have := hall.out k (by rw [hss.out]; exact hlt); rw [hx.out] at this; omega
      have c0 : w3.cell? ⟨bp, op + k, none⟩ = some (.string x) := by
        obtain ⟨b', o', h1, h2⟩ := V3.st k (by rw [hss.out]; exact hlt)
        cases h1
        rw [h2, hx.out]
      have V4 := hidIt V3
      clear V3 hx
      go_wp2
      go_round
      case rel => exact ⟨k + 1, by go_num, by omega⟩
      case measure => simp [intOf]; omega
    · have c0 := V3.c0
      have c1 := V3.c1
      have V4 := hidIt V3
      have L3 := V3.lad
      clear V3
      go_wp2_with (fail)
      refine (joinedB_any b s hob.out D G P (fun i => Ot.chn i (F i) (Ot.las b - F i) (ss.getD i ByteArray.empty)) (fun i hi => Ot.chn_size _ _ _ _ (hall.out i (by rw [hss.out, ← hn.out]; exact hi))) _ L3 (fun i W hW hi => rec1_any b s hob.out D G P gd len F bp op len cap ss i (F i) (by have := hn.out; omega) (ss.getD i ByteArray.empty) (hall.out i (by rw [hss.out, ← hn.out]; exact hi)) ⟨by rw [← hn.out]; exact hi, rfl, by rw [hss.out, ← hn.out]; exact hi, rfl⟩ hlss.out (hFl.out i) w3 W ((⟨V4.out.dc, V4.out.row, V4.out.c0, V4.out.c1, V4.out.pc, V4.out.st, V4.out.lad, Below.refl _ _⟩ : RVo w3 D G P gd len F (b : Int) (s : Int) bp op len cap ss w3).next hW))).mono ?_
      rintro e w5 ⟨rfl, hb5⟩
      have HB := hidIt (below_then V4.out.bel hb5)
      rw [hr2.out]
      clear hb5 c0 c1 L3
      go_wp2_with (fail)
      go_ret2
      exact ⟨rfl, HB.out⟩
def recOk (b s : Int) (dig : ByteArray) (ss : List ByteArray) : Prop := okZ b s = true ∧ (dig.size : Int) = s ∧ ss.length = Ot.tot b.toNat s.toNat ∧ ∀ i, i < ss.length → (ss.getD i ByteArray.empty).size = 32
set_option maxRecDepth 100000 in
set_option maxHeartbeats 1000000 in
theorem recover_no (b s : Int) (dig : ByteArray) (a : Option Addr) (len cap : Nat) (ss : List ByteArray) (hlen : len = ss.length) (hcap : len ≤ 1000000) (hno : ¬ recOk b s dig ss) (w : World) (hst : Strs w a ss) :
    Calls Tryd.prog 33 #[.agg #[.int .i64 b, .int .i64 s], .string dig, .slice a len cap] w fun e w' => e = .returned (.tuple #[.string ⟨#[]⟩, .int .i64 1]) ∧ Below w.heap.size w w' := by
  have TB := two_boxes w b s (.slice a len cap)
  by_cases hd : okZ b s = false ∨ ¬ (dig.size : Int) = s
  · have h2 := hidIt hd
    clear hno hd hlen
    go_enter Tryd.func33, Tryd.ntmps33
    go_wp2_with (fail)
    obtain ⟨w1, hw1⟩ : ∃ w1, Hid ((w.alloc (.cells #[.int .i64 b, .int .i64 s] 25)).alloc (.cells #[.slice a len cap] 47) = w1) := ⟨_, rfl⟩
    rw [hw1.out] at TB
    try rw [hw1.out]
    refine (digits_no b s dig h2.out _).mono ?_
    rintro e w2 ⟨rfl, hb2⟩
    have HB := hidIt ((TB.1.next hb2).new (.cells #[.slice none 0 0] 27)).bel
    clear hb2 TB hw1
    go_wp2_with (fail)
    go_ret2
    exact ⟨rfl, HB.out⟩
  · have h1 : okZ b s = true := by
      cases hz : okZ b s with
      | true => rfl
      | false => exact absurd (.inl hz) hd
    have h2 : (dig.size : Int) = s := Classical.byContradiction fun h => hd (.inr h)
    obtain ⟨b', s', rfl, rfl, ho⟩ := okZ_of h1
    have dx : Hid (∀ W, Calls Tryd.prog 14 #[.agg #[.int .i64 (b' : Int), .int .i64 (s' : Int)], .string dig] W fun e w' => DigOk W e w' (Ot.dgs b' s' (ofStr dig)) (Ot.tot b' s') ∧ Below W.heap.size W w') := fun W => digits_ok b' s' ho dig _ (hidIt rfl) h2 W
    have hn2 := Ot.tot_bd b' s' ho
    have hno2 : Hid (ss.length = Ot.tot b' s' → ∃ k, k < ss.length ∧ (∀ j, j < k → (ss.getD j ByteArray.empty).size = 32) ∧ ¬ (ss.getD k ByteArray.empty).size = 32) := by
      intro hl
      apply Classical.byContradiction
      intro hn
      apply hno
      refine ⟨h1, h2, by simpa using hl, ?_⟩
      intro i
      induction i using Nat.strongRecOn with
      | _ i ih =>
        intro hi
        apply Classical.byContradiction
        intro h32
        exact hn ⟨i, hi, fun j hj => ih j hj (by omega), h32⟩
    obtain ⟨n, hn⟩ : ∃ n, Hid (Ot.tot b' s' = n) := ⟨_, rfl⟩
    obtain ⟨F, hF⟩ : ∃ F, Hid (Ot.dgs b' s' (ofStr dig) = F) := ⟨_, rfl⟩
    rw [hn.out, hF.out] at dx
    rw [hn.out] at hn2 hno2
    have hlss := hidIt hlen
    clear hno hd h1 h2 ho hlen hn hF
    go_enter Tryd.func33, Tryd.ntmps33
    go_wp2_with (fail)
    obtain ⟨w1, hw1⟩ : ∃ w1, Hid ((w.alloc (.cells #[.int .i64 (b' : Int), .int .i64 (s' : Int)] 25)).alloc (.cells #[.slice a len cap] 47) = w1) := ⟨_, rfl⟩
    obtain ⟨G, hG⟩ : ∃ G, Hid (w.heap.size = G) := ⟨_, rfl⟩
    obtain ⟨P, hP⟩ : ∃ P, Hid (G + 1 = P) := ⟨_, rfl⟩
    rw [hw1.out, hG.out, hP.out] at TB
    try rw [hw1.out]
    try rw [hG.out]
    try rw [hP.out]
    obtain ⟨p1, pc1⟩ := TB
    refine (dx.out _).mono ?_
    rintro e w2 ⟨⟨gd, hgd, rfl, hB⟩, hb2⟩
    have p2 := p1.next hb2
    have pc2 : w2.cell? ⟨P, 0, none⟩ = some (.slice a len cap) := (hb2.cell (p := ⟨P, 0, none⟩) (bytes_lt pc1)).trans pc1
    have hbA : Below w2.heap.size w2 (w2.alloc (.cells #[.slice (some ⟨gd, 0, none⟩) n n] 27)) := (Below.refl _ _).alloc (Nat.le_refl _) _
    have p3 := p2.next hbA
    have e2 : (w2.alloc (.cells #[.slice (some ⟨gd, 0, none⟩) n n] 27)).cell? ⟨P, 0, none⟩ = some (.slice a len cap) := (hbA.cell (p := ⟨P, 0, none⟩) (bytes_lt pc2)).trans pc2
    have st3 := hidIt (hst.below p3.bel)
    have HB := hidIt p3.bel
    clear p1 pc1 hb2 hgd dx p2 pc2 hbA hB hw1 p3
    by_cases hl : len = n
    · subst hl
      obtain ⟨K, hK, hlo, hbad⟩ := hno2.out hlss.out.symm
      have hlo2 := hidIt hlo
      have hKl : K < len := by rw [hlss.out]; exact hK
      clear hlo hno2 hK
      go_wp2_with (fail)
      go_loop [29] (fun i => ∃ k : Nat, i = .int .i64 (k : Int) ∧ k ≤ K) (fun i => len - (intOf i).toNat)
      case atStart => exact ⟨0, rfl, by omega⟩
      case round =>
        obtain ⟨k, rfl, hk⟩ := hrel
        have hlt : k < len := by omega
        obtain ⟨bp, op, rfl, c0⟩ := st3.out k (by rw [← hlss.out]; exact hlt)
        obtain ⟨x, hx⟩ : ∃ x, Hid (ss.getD k ByteArray.empty = x) := ⟨_, rfl⟩
        rw [hx.out] at c0
        by_cases hkK : k = K
        · have hx32 : ¬ (x.size : Int) = 32 := by have := hbad; rw [← hkK, hx.out] at this; omega
          clear hx hkK hbad
          go_wp2
          go_ret2
          exact ⟨rfl, HB.out⟩
        · have hx32 : (x.size : Int) = 32 := by have := hlo2.out k (by omega); rw [hx.out] at this; omega
          clear hx
          go_wp2
          go_round
          case rel => exact ⟨k + 1, by go_num, by omega⟩
          case measure => simp [intOf]; omega
    · have hne : ¬ (len : Int) = (n : Int) := by omega
      clear hno2
      go_wp2_with (fail)
      go_ret2
      exact ⟨rfl, HB.out⟩
set_option maxRecDepth 100000 in
theorem verify_ok (b s : Nat) (ho : Ot.okB b s = true) (dig : ByteArray) (xs : List Nat) (hx : Hid (ofStr dig = xs)) (hsz : (dig.size : Int) = (s : Int)) (a : Option Addr) (len cap : Nat) (ss : List ByteArray) (hlen : len = ss.length) (hss : Hid (ss.length = Ot.tot b s)) (hall : Hid (∀ i, i < ss.length → (ss.getD i ByteArray.empty).size = 32)) (pu : ByteArray) (v : Bool) (hv : Hid (v = true ↔ Ot.rcv b s (Ot.dgs b s xs) ss = pu)) (w : World) (hL : LaidH w) (hst : Strs w a ss) :
    Calls Tryd.prog 34 #[.agg #[.int .i64 (b : Int), .int .i64 (s : Int)], .string pu, .string dig, .slice a len cap] w fun e w' => e = .returned (.bool v) ∧ Below w.heap.size w w' := by
  have p0 : PS w w.heap.size (b : Int) (s : Int) (w.alloc (.cells #[.int .i64 (b : Int), .int .i64 (s : Int)] 25)) := ps_new _ _ _ _
  have dR : Hid (∀ W, LaidH W → Strs W a ss → Calls Tryd.prog 33 #[.agg #[.int .i64 (b : Int), .int .i64 (s : Int)], .string dig, .slice a len cap] W fun e w' => e = .returned (.tuple #[.string (Ot.rcv b s (Ot.dgs b s xs) ss), .int .i64 0]) ∧ Below W.heap.size W w') := fun W hW hS => recover_ok b s ho dig xs hx hsz a len cap ss hlen hss hall W hW hS
  obtain ⟨r, hr⟩ : ∃ r, Hid (Ot.rcv b s (Ot.dgs b s xs) ss = r) := ⟨_, rfl⟩
  rw [hr.out] at dR hv
  have hv2 : (r.toList == pu.toList) = v := by
    rw [str_beq]
    by_cases h : r = pu
    · subst h; rw [hv.out.2 rfl]; simp
    · have : v = false := Bool.eq_false_iff.2 fun h2 => h (hv.out.1 h2)
      rw [this]
      have h3 : ¬ ofStr r = ofStr pu := fun e => h (str_eq_of e)
      simp [h3]
  clear hx hsz hlen hss hall hr hv ho
  go_enter Tryd.func34, Tryd.ntmps34
  go_wp2_with (fail)
  refine (dR.out _ (hL.below p0.bel hL.two) (hst.below p0.bel)).mono ?_
  rintro e w2 ⟨rfl, hb2⟩
  have HB := hidIt (p0.next hb2).bel
  clear hb2 p0 dR
  go_wp2_with (fail)
  go_ret
  exact ⟨rfl, HB.out⟩
set_option maxRecDepth 100000 in
theorem verify_no (b s : Int) (dig : ByteArray) (a : Option Addr) (len cap : Nat) (ss : List ByteArray) (hlen : len = ss.length) (hcap : len ≤ 1000000) (hno : ¬ recOk b s dig ss) (pu : ByteArray) (w : World) (hst : Strs w a ss) :
    Calls Tryd.prog 34 #[.agg #[.int .i64 b, .int .i64 s], .string pu, .string dig, .slice a len cap] w fun e w' => e = .returned (.bool false) ∧ Below w.heap.size w w' := by
  have p0 : PS w w.heap.size b s (w.alloc (.cells #[.int .i64 b, .int .i64 s] 25)) := ps_new _ _ _ _
  have dR : Hid (∀ W, Strs W a ss → Calls Tryd.prog 33 #[.agg #[.int .i64 b, .int .i64 s], .string dig, .slice a len cap] W fun e w' => e = .returned (.tuple #[.string ⟨#[]⟩, .int .i64 1]) ∧ Below W.heap.size W w') := fun W hS => recover_no b s dig a len cap ss hlen hcap hno W hS
  clear hlen hno
  go_enter Tryd.func34, Tryd.ntmps34
  go_wp2_with (fail)
  refine (dR.out _ (hst.below p0.bel)).mono ?_
  rintro e w2 ⟨rfl, hb2⟩
  have HB := hidIt (p0.next hb2).bel
  clear hb2 p0 dR
  go_wp2_with (fail)
  go_ret
  exact ⟨rfl, HB.out⟩
end Go.Proofs.YtegfbmekpmdcaaaDoor
