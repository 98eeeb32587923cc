import Derived.Test.YtegfbmekpmdcaaaDoorOn3
import Derived.Test.YtegfbmekpmdcaaaDoorBy2
namespace Go.Proofs.YtegfbmekpmdcaaaDoor
open Go.RowKit
theorem i64_mask (x b : Nat) (hx : x < 9223372036854775808) (hb : b ≤ 8) : bits BinOp.and IntKind.i64 (x : Int) ((2 ^ b - 1 : Nat) : Int) = ((x % 2 ^ b : Nat) : Int) := by
  have h2 : 2 ^ b ≤ 2 ^ 8 := Nat.pow_le_pow_right (by omega) hb
  have h3 := Nat.mod_lt x (Nat.two_pow_pos b)
  show IntKind.i64.wrap ((BitVec.ofInt 64 (x : Int) &&& BitVec.ofInt 64 ((2 ^ b - 1 : Nat) : Int)).toNat : Int) = _
  rw [BitVec.toNat_and, ofInt_u64 x (by omega), ofInt_u64 _ (by omega), Nat.and_two_pow_sub_one_eq_mod, IntKind.wrap_i64]
  omega
theorem infoI : (Tryd.prog.info? 3).map (fun i => (i.zero, i.size, i.bytes)) = some (some (.int .i64 0), 1, 8) := by kernel_rfl
set_option maxRecDepth 100000 in
theorem makeLenI (n : Nat) (hn : n ≤ 1000000000) (w : World) : (Instr.makeSlice 27 (.int .i64 (n : Int)) (.int .i64 (n : Int))).run Tryd.prog w = .ok (.slice (some ⟨w.heap.size, 0, none⟩) n n) (w.alloc (.cells (rowA .i64 (fun _ => 0) n n) 3)) := by
  obtain ⟨i, hi, hz0, hz1, hz2⟩ := info_parts infoI
  have h := run_make (P := Tryd.prog) w 27 3 i (.int .i64 0) Tryd.underlying27 hi hz0 .i64 .i64 n n (by omega) (by omega) (by rw [hz2]; omega) (by omega)
  rw [hz1] at h
  simp only [Int.toNat_natCast] at h
  have e : madeCells (Value.int .i64 0).cells (n * 1) = rowA .i64 (fun _ => 0) n n := by
    apply Array.ext_getElem?
    intro j
    by_cases h : j < n
    · rw [rowA_get _ _ _ _ _ h]; simp [madeCells, Value.cells, h, Nat.mod_one]
    · have e1 : (rowA .i64 (fun _ => 0) n n)[j]? = none := by simp [rowA_size]; omega
      rw [e1]; simp [madeCells]; omega
  rwa [e] at h
/-- parameters in the box G, numbers in the block R -/
structure DS (w : World) (G : Nat) (b s : Int) (R : Nat) (F : Nat → Nat) (n : Nat) (W : World) : Prop where
  ps : PS w G b s W
  row : Blk W R 3 (rowA .i64 F n n)
theorem DS.next {w W W' : World} {G : Nat} {b s : Int} {R : Nat} {F : Nat → Nat} {n : Nat} (h : DS w G b s R F n W) (hb : Below W.heap.size W W') : DS w G b s R F n W' := ⟨h.ps.next hb, h.row.below hb h.row.lt⟩
theorem DS.drew {w W : World} {G : Nat} {b s : Int} {R : Nat} {F : Nat → Nat} {n : Nat} (h : DS w G b s R F n W) : DS w G b s R F n W.drew := h.next (Below.refl _ _).drew
theorem DS.behind {w W W' : World} {G : Nat} {b s : Int} {R : Nat} {F : Nat → Nat} {n : Nat} (hb : Below W.heap.size W W') (h : DS w G b s R F n W) : DS w G b s R F n W' := h.next hb
def DSA (w : World) (G : Nat) (b s : Int) (R : Nat) (F : Nat → Nat) (n k x : Nat) (W : World) : Prop := DS w G b s R F n W ∧ W.cell? ⟨G, 0, none⟩ = some (.int .i64 b) ∧ W.cell? ⟨G, 1, none⟩ = some (.int .i64 s) ∧ W.cell? ⟨R, k, none⟩ = some (.int .i64 (x : Int)) ∧ W.frozen? ⟨R, k, none⟩ = false
theorem DS.all {w W : World} {G : Nat} {b s : Int} {R : Nat} {F : Nat → Nat} {n k x : Nat} (hk : Hid (k < n ∧ F k = x)) (h : DS w G b s R F n W) : DS w G b s R F n W ∧ W.cell? ⟨G, 0, none⟩ = some (.int .i64 b) ∧ W.cell? ⟨G, 1, none⟩ = some (.int .i64 s) ∧ W.cell? ⟨R, k, none⟩ = some (.int .i64 (x : Int)) ∧ W.frozen? ⟨R, k, none⟩ = false :=
  ⟨h, h.ps.c0, h.ps.c1, by rw [h.row.cell, rowA_all _ _ _ _ hk.out.1, hk.out.2], h.row.frozen k⟩
theorem DS.set_ {w W : World} {G : Nat} {b s : Int} {R : Nat} {F F' : Nat → Nat} {n k : Nat} (h : DS w G b s R F n W) (v : Nat) (hR : w.heap.size ≤ R) (hG : G ≠ R) (hF : ∀ i, i < n → (if i = k then v else F i) = F' i) : DS w G b s R F' n (W.setCell ⟨R, k, none⟩ (.int .i64 (v : Int))) := by
  refine ⟨⟨?_, ?_, h.ps.bel.setCell hR _⟩, ?_⟩
  · rw [← h.ps.c0]; exact World.cell?_of_block (a := ⟨G, 0, none⟩) (Below.heap_setCell W ⟨R, k, none⟩ _ _ hG)
  · rw [← h.ps.c1]; exact World.cell?_of_block (a := ⟨G, 1, none⟩) (Below.heap_setCell W ⟨R, k, none⟩ _ _ hG)
  · have := h.row.set_ k (.int .i64 (v : Int))
    rw [rowA_upd] at this
    rwa [rowA_congr hF] at this
/-- the number in a cell -/
def cellI (W : World) (R k : Nat) : Int := match W.cell? ⟨R, k, none⟩ with
  | some (.int _ z) => z
  | _ => 0
/-- before or after the store of v at k -/
def SD (w : World) (G : Nat) (b s : Int) (R : Nat) (F F' : Nat → Nat) (n : Nat) (W : World) : Prop := DS w G b s R F n W ∨ DS w G b s R F' n W
theorem DS.cellI {w W : World} {G : Nat} {b s : Int} {R : Nat} {F : Nat → Nat} {n k : Nat} (hk : k < n) (h : DS w G b s R F n W) : W.cell? ⟨R, k, none⟩ = some (.int .i64 (cellI W R k)) := by
  have := (DS.all (k := k) (x := F k) ⟨hk, rfl⟩ h).2.2.2.1
  unfold Proofs.YtegfbmekpmdcaaaDoor.cellI
  rw [this]
theorem SD.all {w W : World} {G : Nat} {b s : Int} {R : Nat} {F F' : Nat → Nat} {n k : Nat} (hk : Hid (k < n)) (h : SD w G b s R F F' n W) : SD w G b s R F F' n W ∧ W.cell? ⟨G, 0, none⟩ = some (.int .i64 b) ∧ W.cell? ⟨G, 1, none⟩ = some (.int .i64 s) ∧ W.cell? ⟨R, k, none⟩ = some (.int .i64 (cellI W R k)) ∧ W.frozen? ⟨R, k, none⟩ = false := by
  refine ⟨h, ?_⟩
  rcases h with h | h
  · exact ⟨h.ps.c0, h.ps.c1, h.cellI hk.out, h.row.frozen k⟩
  · exact ⟨h.ps.c0, h.ps.c1, h.cellI hk.out, h.row.frozen k⟩
theorem SD.drew {w W : World} {G : Nat} {b s : Int} {R : Nat} {F F' : Nat → Nat} {n : Nat} (h : SD w G b s R F F' n W) : SD w G b s R F F' n W.drew := h.imp DS.drew DS.drew
theorem SD.behind {w W W' : World} {G : Nat} {b s : Int} {R : Nat} {F F' : Nat → Nat} {n : Nat} (hb : Below W.heap.size W W') (h : SD w G b s R F F' n W) : SD w G b s R F F' n W' := h.imp (DS.behind hb) (DS.behind hb)
/-- what is stored where -/
structure Put (w : World) (G R : Nat) (F F' : Nat → Nat) (n k v : Nat) : Prop where
  hk : k < n
  hR : w.heap.size ≤ R
  hG : G ≠ R
  to : ∀ i, i < n → (if i = k then v else F i) = F' i
theorem SD.after {w W : World} {G : Nat} {b s : Int} {R : Nat} {F F' : Nat → Nat} {n k v : Nat} (hp : Hid (Put w G R F F' n k v)) (h : SD w G b s R F F' n W) : DS w G b s R F' n (W.setCell ⟨R, k, none⟩ (.int .i64 (v : Int))) := by
  rcases h with h | h
  · exact h.set_ v hp.out.hR hp.out.hG hp.out.to
  · refine h.set_ v hp.out.hR hp.out.hG (fun i hi => ?_)
    have h1 := hp.out.to i hi
    by_cases hik : i = k
    · rw [if_pos hik] at h1 ⊢; exact h1
    · rw [if_neg hik]
theorem SD.put {w W : World} {G : Nat} {b s : Int} {R : Nat} {F F' : Nat → Nat} {n k v : Nat} (hp : Hid (Put w G R F F' n k v)) (h : SD w G b s R F F' n W) : SD w G b s R F F' n (W.setCell ⟨R, k, none⟩ (.int .i64 (v : Int))) := .inr (h.after hp)
/-- what has been written: the first k digits and the last c -/
def Hf (b s : Nat) (xs : List Nat) (k c j : Nat) : Nat := if j < k ∨ Ot.tot b s - c ≤ j then Ot.dgs b s xs j else 0
theorem hf_zero (b s : Nat) (xs : List Nat) (i : Nat) (hi : i < Ot.tot b s) : 0 = Hf b s xs 0 0 i := by unfold Hf; rw [if_neg (by omega)]
theorem hf_left (b s : Nat) (xs : List Nat) (k : Nat) (i : Nat) (_ : i < Ot.tot b s) : (if i = k then Ot.dgs b s xs k else Hf b s xs k 0 i) = Hf b s xs (k + 1) 0 i := by
  unfold Hf
  by_cases h : i = k
  · subst h; rw [if_pos rfl, if_pos (by omega)]
  · rw [if_neg h]
    by_cases h2 : i < k
    · rw [if_pos (by omega), if_pos (by omega)]
    · rw [if_neg (by omega), if_neg (by omega)]
theorem hf_right (b s : Nat) (xs : List Nat) (m c p : Nat) (hp : p + 1 + c = Ot.tot b s) (i : Nat) (_ : i < Ot.tot b s) : (if i = p then Ot.dgs b s xs p else Hf b s xs m c i) = Hf b s xs m (c + 1) i := by
  unfold Hf
  by_cases h : i = p
  · subst h; rw [if_pos rfl, if_pos (by omega)]
  · rw [if_neg h]
    by_cases h2 : i < m ∨ Ot.tot b s - c ≤ i
    · rw [if_pos h2, if_pos (by omega)]
    · rw [if_neg h2, if_neg (by omega)]
theorem hf_all (b s : Nat) (xs : List Nat) (i : Nat) (_ : i < Ot.tot b s) : Hf b s xs (Ot.mn b s) (Ot.cd b s) i = Ot.dgs b s xs i := by
  unfold Hf; rw [if_pos (by unfold Ot.tot at *; omega)]
/-- what Digits returns -/
def DigOk (w : World) (e : Ending) (w' : World) (F : Nat → Nat) (n : Nat) : Prop := ∃ g, w.heap.size ≤ g ∧ e = .returned (.tuple #[.slice (some ⟨g, 0, none⟩) n n, .int .i64 0]) ∧ Blk w' g 3 (rowA .i64 F n n)
set_option maxRecDepth 100000 in
set_option maxHeartbeats 1000000 in
theorem digits_ok (b s : Nat) (ho : Ot.okB b s = true) (dig : ByteArray) (xs : List Nat) (hx : Hid (ofStr dig = xs)) (hsz : (dig.size : Int) = (s : Int)) (w : World) :
    Calls Tryd.prog 14 #[.agg #[.int .i64 (b : Int), .int .i64 (s : Int)], .string dig] w fun e w' => DigOk w e w' (Ot.dgs b s xs) (Ot.tot b s) ∧ Below w.heap.size w w' := by
  have hl := Ot.las_bd b s ho
  have hm := Ot.mn_bd b s ho
  have hc := Ot.cd_bd b s ho
  have hs32 := ((Ot.ok_iff b s).1 ho).2
  have hob := hidIt ho
  have d0 : Hid (∀ W, Calls Tryd.prog 18 #[.agg #[.int .i64 (b : Int), .int .i64 (s : Int)]] W fun e w' => e = .returned (.int .i64 (Ot.tot b s : Int)) ∧ Below W.heap.size W w') := fun W => chains_ok b s ho W
  have d1 : Hid (∀ W, Calls Tryd.prog 40 #[.agg #[.int .i64 (b : Int), .int .i64 (s : Int)]] W fun e w' => e = .returned (.int .i64 (Ot.mn b s : Int)) ∧ Below W.heap.size W w') := fun W => digits_fn b s ho W
  have d2 : Hid (∀ W, Calls Tryd.prog 41 #[.agg #[.int .i64 (b : Int), .int .i64 (s : Int)]] W fun e w' => e = .returned (.int .i64 (Ot.las b : Int)) ∧ Below W.heap.size W w') := fun W => last_any b s ho W
  have d3 : Hid (∀ W, Calls Tryd.prog 42 #[.agg #[.int .i64 (b : Int), .int .i64 (s : Int)]] W fun e w' => e = .returned (.int .i64 (Ot.cd b s : Int)) ∧ Below W.heap.size W w') := fun W => checks_any b s ho W
  have d4 : Hid (∀ W, Calls Tryd.prog 17 #[.agg #[.int .i64 (b : Int), .int .i64 (s : Int)]] W fun e w' => e = .returned (.bool true) ∧ Below W.heap.size W w') := fun W => valid_ok b s ho W
  obtain ⟨n, hn⟩ : ∃ n, Hid (Ot.tot b s = n) := ⟨_, rfl⟩
  obtain ⟨c, hcd⟩ : ∃ c, Hid (Ot.cd b s = c) := ⟨_, rfl⟩
  obtain ⟨m, hmn⟩ : ∃ m, Hid (Ot.mn b s = m) := ⟨_, rfl⟩
  obtain ⟨l, hll⟩ : ∃ l, Hid (Ot.las b = l) := ⟨_, rfl⟩
  have hnm : Hid (n = m + c) := by show _ = _; rw [← hn.out, ← hmn.out, ← hcd.out]; rfl
  rw [hn.out] at d0 ⊢
  rw [hcd.out] at hc d3
  rw [hmn.out] at hm d1
  rw [hll.out] at hl d2
  have mk := makeLenI n (by have := hnm.out; omega)
  have hn2 : n ≤ 265 := by have := hnm.out; omega
  have hm1 : 1 ≤ m := hm.1
  have hm2 : m ≤ 256 := hm.2.1
  have hmb : Hid (m * b = 8 * s) := hm.2.2
  have hc9 : c ≤ 9 := hc.2
  have b8 : b ≤ 8 := hl.2.2.2
  have hl2 : l ≤ 255 := hl.2.1
  have hlp : Hid (l + 1 = 2 ^ b) := hl.2.2.1
  have p0 : PS w w.heap.size (b : Int) (s : Int) (w.alloc (.cells #[.int .i64 (b : Int), .int .i64 (s : Int)] 25)) := ps_new _ _ _ _
  clear hl hm hc ho
  go_enter Tryd.func14, Tryd.ntmps14
  go_wp2_with (fail)
  refine (d4.out _).mono ?_
  rintro e w2 ⟨rfl, hb2⟩
  have p2 := p0.next hb2
  obtain ⟨G, hG⟩ : ∃ G, Hid (w.heap.size = G) := ⟨_, rfl⟩
  rw [hG.out] at p2
  try rw [hG.out]
  have e0 := p2.c0
  have e1 := p2.c1
  clear hb2 p0
  go_wp2_with (fail)
  refine (d0.out _).mono ?_
  rintro e w3 ⟨rfl, hb3⟩
  have p3 := p2.next hb3
  clear hb3 p2 e0 e1
  have e0 := p3.c0
  have e1 := p3.c1
  have hG3 := bytes_lt e0
  obtain ⟨R, hR⟩ : ∃ R, Hid (w3.heap.size = R) := ⟨_, rfl⟩
  have hwR : Hid (w.heap.size ≤ R) := by rw [← hR.out]; exact p3.bel.size
  obtain ⟨w4, hw4⟩ : ∃ w4, Hid (w3.alloc (.cells (rowA .i64 (fun _ => 0) n n) 3) = w4) := ⟨_, rfl⟩
  have q4 : DS w G (b : Int) (s : Int) R (Hf b s xs 0 0) n w4 := by
    rw [← hw4.out, ← hR.out]
    refine ⟨p3.new _, ?_⟩
    rw [← rowA_congr (f := fun _ => 0) (fun i hi => hf_zero b s xs i (by rw [hn.out]; exact hi))]
    exact Blk.new _ _ _
  have c0 : (w3.alloc (.cells (rowA .i64 (fun _ => 0) n n) 3)).cell? ⟨G, 0, none⟩ = some (.int .i64 (b : Int)) := by rw [hw4.out]; exact q4.ps.c0
  have c1 : (w3.alloc (.cells (rowA .i64 (fun _ => 0) n n) 3)).cell? ⟨G, 1, none⟩ = some (.int .i64 (s : Int)) := by rw [hw4.out]; exact q4.ps.c1
  have hGR : Hid (G ≠ R) := by show _ ≠ _; rw [← hR.out]; omega
  clear e0 e1 p3 hG3
  go_wp2_with (fail)
  refine (d1.out _).mono ?_
  rintro e w5 ⟨rfl, hb5⟩
  rw [hw4.out] at hb5
  have q5 := q4.next hb5
  try rw [hR.out]
  clear hb5 q4 hw4 c0 c1 d0 d1 d4 mk
  go_wp2_with (fail)
  have hxl : Hid (∀ i, xs.getD i 0 < 256) := fun i => by rw [← hx.out]; exact Hm.getD_lt (ofStr_lt dig) i
  go_loopw [27, 7] (fun i z wr => ∃ k : Nat, i = .int .i64 (k : Int) ∧ k ≤ m ∧ z = .int .i64 ((Ot.ckTo b xs k : Nat) : Int) ∧ DS w G (b : Int) (s : Int) R (Hf b s xs k 0) n wr) (fun i _ _ => m - (intOf i).toNat)
  case atStart => exact ⟨0, rfl, by omega, rfl, q5⟩
  case round =>
    obtain ⟨k, rfl, hk, rfl, hD⟩ := hrel
    clear q5
    have hckb := Ot.ckTo_le b xs k
    obtain ⟨z, hz⟩ : ∃ z, Hid (Ot.ckTo b xs k = z) := ⟨_, rfl⟩
    rw [hz.out, hll.out] at hckb
    have hz3 : z ≤ 65280 := Nat.le_trans hckb (Nat.mul_le_mul (Nat.le_trans hk hm2) hl2)
    rw [hz.out]
    clear hckb
    by_cases hlt : k < m
    · obtain ⟨a, ha⟩ : ∃ a, Hid (k * b = a) := ⟨_, rfl⟩
      have ha2 : a + b ≤ 8 * s := by rw [← hmb.out, ← ha.out, ← Nat.succ_mul]; exact Nat.mul_le_mul_right b hlt
      have eb := ((Ot.ok_iff b s).1 hob.out).1
      have ha8 : a % 8 + b ≤ 8 := by rcases eb with rfl | rfl | rfl | rfl <;> (have := ha.out; omega)
      obtain ⟨q, hq⟩ : ∃ q, Hid (a / 8 = q) := ⟨_, rfl⟩
      obtain ⟨r, hr⟩ : ∃ r, Hid (8 - b - a % 8 = r) := ⟨_, rfl⟩
      obtain ⟨x, hxq⟩ : ∃ x, Hid (xs.getD q 0 = x) := ⟨_, rfl⟩
      obtain ⟨y, hy⟩ : ∃ y : Nat, Hid (x / (2 : Nat) ^ r = y) := ⟨x / 2 ^ r, hidIt rfl⟩
      obtain ⟨v, hv⟩ : ∃ v, Hid (Ot.dg b xs k = v) := ⟨_, rfl⟩
      have hv2 : Hid (y % 2 ^ b = v) := by show _ = _; rw [← hv.out, ← hy.out, ← hxq.out, ← hr.out, ← hq.out, ← ha.out]; rfl
      have hvl : v ≤ l := by rw [← hv.out, ← hll.out]; exact Ot.dg_le b xs k
      obtain ⟨u, hu⟩ : ∃ u, Hid (l - v = u) := ⟨_, rfl⟩
      obtain ⟨z', hz'⟩ : ∃ z', Hid (z + u = z') := ⟨_, rfl⟩
      have hz4 : Hid (Ot.ckTo b xs (k + 1) = z') := by show _ = _; rw [← hz'.out, ← hu.out, ← hv.out, ← hz.out, ← hll.out]; rfl
      have hx256 : x < 256 := by rw [← hxq.out]; exact hxl.out q
      have hyb : y ≤ x := by rw [← hy.out]; exact Nat.div_le_self _ _
      have m1 : (k : Int) * (b : Int) = (a : Int) := by rw [← ha.out]; push_cast; rfl
      have m2 : 8 - (b : Int) - (a : Int) % 8 = (r : Int) := by have := hr.out; omega
      have m3 : (a : Int) / 8 = (q : Int) := by have := hq.out; omega
      have m4 : (x : Int) / 2 ^ r = (y : Int) := by rw [← hy.out]; push_cast; rfl
      have m5 : bits BinOp.and IntKind.i64 (y : Int) (l : Int) = (v : Int) := by
        have h1 := i64_mask y b (by omega) b8
        rw [hv2.out, ← hlp.out, Nat.add_sub_cancel] at h1
        exact h1
      have m6 : (l : Int) - (v : Int) = (u : Int) := by have := hu.out; omega
      have m7 : IntKind.i64.wrap (u : Int) = (u : Int) := IntWalk.i64_in _ (by have := hu.out; omega)
      have m8 : (z : Int) + (u : Int) = (z' : Int) := by have := hz'.out; omega
      have m9 : IntKind.i64.wrap (z' : Int) = (z' : Int) := IntWalk.i64_in _ (by have := hz'.out; have := hu.out; omega)
      have hqs : q < s := by have := hq.out; omega
      have i1 := fun W => idxStr dig q (by omega) .i64 W
      rw [hx.out, hxq.out] at i1
      have hkn : k < n := by have := hnm.out; omega
      have hr8 : r ≤ 8 := by have := hr.out; omega
      have ha3 : a ≤ 256 := by omega
      have hk2 : Hid (k < n ∧ Hf b s xs (k + 1) 0 k = v) := ⟨hkn, by unfold Hf; rw [if_pos (by omega), ← hv.out]; unfold Ot.dgs; rw [if_pos (by rw [hmn.out]; exact hlt)]⟩
      have hput : Hid (Put w G R (Hf b s xs k 0) (Hf b s xs (k + 1) 0) n k v) := ⟨hkn, hwR.out, hGR.out, fun i hi => by
        have h1 := hf_left b s xs k i (by rw [hn.out]; exact hi)
        have h2 : Ot.dgs b s xs k = v := by unfold Ot.dgs; rw [if_pos (by rw [hmn.out]; exact hlt), hv.out]
        rwa [h2] at h1⟩
      have hkh := hidIt hkn
      obtain ⟨_, e0, e1, e2, e3⟩ := SD.all hkh (.inl hD : SD w G (b : Int) (s : Int) R (Hf b s xs k 0) (Hf b s xs (k + 1) 0) n wr)
      clear ha hq hr hxq hy hv hu hz' hv2 eb ha8 ha2 hx
      have m10 : IntKind.i64.wrap (x : Int) = (x : Int) := IntWalk.i64_in _ (by omega)
      have m11 : (a : Int).tdiv 8 = (q : Int) := by rw [Int.tdiv_eq_ediv_of_nonneg (by omega)]; exact m3
      have m12 : IntKind.i64.wrap (q : Int) = (q : Int) := IntWalk.i64_in _ (by omega)
      have m13 : IntKind.i64.wrap (y : Int) = (y : Int) := IntWalk.i64_in _ (by omega)
      go_wp2
      go_region_held3 (fun W' => SD w G (b : Int) (s : Int) R (Hf b s xs k 0) (Hf b s xs (k + 1) 0) n W' ∧ W'.cell? ⟨G, 0, none⟩ = some (.int .i64 (b : Int)) ∧ W'.cell? ⟨G, 1, none⟩ = some (.int .i64 (s : Int)) ∧ W'.cell? ⟨R, k, none⟩ = some (.int .i64 (cellI W' R k)) ∧ W'.frozen? ⟨R, k, none⟩ = false)
        (first
          | exact SD.all hkh (by assumption)
          | (go_split_ands; exact SD.all hkh (by assumption))
          | (go_split_ands; exact SD.all hkh (SD.drew (by assumption)))
          | (go_split_ands; exact SD.all hkh (SD.behind (by assumption) (by assumption)))
          | (go_split_ands; exact SD.all hkh (SD.put hput (by assumption))))
        (first
          | (go_at_call 41; (with_reducible refine Calls.mono (d2.out _) ?_); rintro e w8 ⟨rfl, hb8⟩))
      all_goals
        go_split_ands
        have q9 := SD.after hput (.inl (hD.drew.next hb8))
        obtain ⟨w9, hw9⟩ : ∃ w9, Hid (w8.setCell ⟨R, k, none⟩ (.int .i64 (v : Int)) = w9) := ⟨_, rfl⟩
        rw [hw9.out] at q9
        try rw [hw9.out]
        clear hb8 hw9 e0 e1 e2 e3 hD
        obtain ⟨_, e0, e1, e2, e3⟩ := DS.all hk2 q9
        go_wp2
        go_region_held3 (fun W' => DS w G (b : Int) (s : Int) R (Hf b s xs (k + 1) 0) n W' ∧ W'.cell? ⟨G, 0, none⟩ = some (.int .i64 (b : Int)) ∧ W'.cell? ⟨G, 1, none⟩ = some (.int .i64 (s : Int)) ∧ W'.cell? ⟨R, k, none⟩ = some (.int .i64 (v : Int)) ∧ W'.frozen? ⟨R, k, none⟩ = false)
          (first
            | exact DS.all hk2 (by assumption)
            | (go_split_ands; exact DS.all hk2 (by assumption))
            | (go_split_ands; exact DS.all hk2 (DS.drew (by assumption)))
            | (go_split_ands; exact DS.all hk2 (DS.behind (by assumption) (by assumption))))
          (first
            | (go_at_call 41; (with_reducible refine Calls.mono (d2.out _) ?_); rintro e w10 ⟨rfl, hb10⟩))
        all_goals
          go_split_ands
          have q10 := hidIt (q9.drew.next hb10)
          clear hb10 e0 e1 e2 e3 q9
          go_wp2
          go_roundw
          case rel => exact ⟨k + 1, by go_num, by omega, by rw [hz4.out], q10.out⟩
          case measure => simp [intOf]; omega
    · have hkm : Hid (k = m) := by show _ = _; omega
      have hzk : Hid (Ot.ck b s xs = z) := by show _ = _; rw [← hz.out, hkm.out, ← hmn.out]; rfl
      have q1 : DS w G (b : Int) (s : Int) R (Hf b s xs m 0) n wr := by have := hD; rwa [hkm.out] at this
      have e0 := q1.ps.c0
      have e1 := q1.ps.c1
      clear hD hz
      go_wp2_with (fail)
      refine (d3.out _).mono ?_
      rintro e w6 ⟨rfl, hb6⟩
      have q6 := q1.next hb6
      clear hb6 q1 e0 e1 hlt hk hkm
      go_wp2_with (fail)
      obtain ⟨wo, hwo⟩ : ∃ wo, Hid (wo = wr) := ⟨_, rfl⟩
      go_loopw [65] (fun i wr => ∃ k : Nat, i = .int .i64 (k : Int) ∧ k ≤ c ∧ DS w G (b : Int) (s : Int) R (Hf b s xs m k) n wr) (fun i _ => c - (intOf i).toNat)
      case atStart => exact ⟨0, rfl, by omega, q6⟩
      case round =>
        obtain ⟨j, rfl, hj, hD⟩ := hrel
        clear q6
        by_cases hlt : j < c
        · obtain ⟨a, ha⟩ : ∃ a, Hid (j * b = a) := ⟨_, rfl⟩
          have ha2 : a ≤ 16 := by
            rw [← ha.out]
            refine Nat.le_trans (Nat.mul_le_mul_right b (show j ≤ c - 1 by omega)) ?_
            rw [← hcd.out]; exact Ot.cd_sh b s hob.out
          obtain ⟨p, hp⟩ : ∃ p, Hid (n - 1 - j = p) := ⟨_, rfl⟩
          have hpn : p + 1 + j = n := by have := hp.out; have := hnm.out; omega
          have hpm : m ≤ p := by have := hp.out; have := hnm.out; omega
          obtain ⟨y, hy⟩ : ∃ y : Nat, Hid (z / (2 : Nat) ^ a = y) := ⟨z / 2 ^ a, hidIt rfl⟩
          obtain ⟨v, hv⟩ : ∃ v, Hid (Ot.dgs b s xs p = v) := ⟨_, rfl⟩
          have hv2 : Hid (y % 2 ^ b = v) := by
            show _ = _
            rw [← hv.out]
            unfold Ot.dgs
            rw [if_neg (by rw [hmn.out]; omega), hzk.out, hn.out, show n - 1 - p = j by omega, ha.out, hy.out]
          have hyb : y ≤ z := by rw [← hy.out]; exact Nat.div_le_self _ _
          have m1 : (j : Int) * (b : Int) = (a : Int) := by rw [← ha.out]; push_cast; rfl
          have m2 : (n : Int) - 1 - (j : Int) = (p : Int) := by omega
          have m3 : IntKind.i64.wrap (p : Int) = (p : Int) := IntWalk.i64_in _ (by omega)
          have m4 : (z : Int) / 2 ^ a = (y : Int) := by rw [← hy.out]; push_cast; rfl
          have m5 : bits BinOp.and IntKind.i64 (y : Int) (l : Int) = (v : Int) := by
            have h1 := i64_mask y b (by omega) b8
            rw [hv2.out, ← hlp.out, Nat.add_sub_cancel] at h1
            exact h1
          have m6 : IntKind.i64.wrap (a : Int) = (a : Int) := IntWalk.i64_in _ (by omega)
          have m7 : IntKind.i64.wrap ((n : Int) - 1) = (n : Int) - 1 := IntWalk.i64_in _ (by omega)
          have m8 : IntKind.i64.wrap (y : Int) = (y : Int) := IntWalk.i64_in _ (by omega)
          have hpl : p < n := by omega
          have hput : Hid (Put w G R (Hf b s xs m j) (Hf b s xs m (j + 1)) n p v) := ⟨hpl, hwR.out, hGR.out, fun i hi => by
            have h1 := hf_right b s xs m j p (by rw [hn.out]; exact hpn) i (by rw [hn.out]; exact hi)
            rwa [hv.out] at h1⟩
          have hkh := hidIt hpl
          obtain ⟨_, e0, e1, e2, e3⟩ := SD.all hkh (.inl hD : SD w G (b : Int) (s : Int) R (Hf b s xs m j) (Hf b s xs m (j + 1)) n wr)
          clear ha hp hy hv hv2
          go_wp2
          go_region_held3 (fun W' => SD w G (b : Int) (s : Int) R (Hf b s xs m j) (Hf b s xs m (j + 1)) n W' ∧ W'.cell? ⟨G, 0, none⟩ = some (.int .i64 (b : Int)) ∧ W'.cell? ⟨G, 1, none⟩ = some (.int .i64 (s : Int)) ∧ W'.cell? ⟨R, p, none⟩ = some (.int .i64 (cellI W' R p)) ∧ W'.frozen? ⟨R, p, none⟩ = false)
            (first
              | exact SD.all hkh (by assumption)
              | (go_split_ands; exact SD.all hkh (by assumption))
              | (go_split_ands; exact SD.all hkh (SD.drew (by assumption)))
              | (go_split_ands; exact SD.all hkh (SD.behind (by assumption) (by assumption)))
              | (go_split_ands; exact SD.all hkh (SD.put hput (by assumption))))
            (first
              | (go_at_call 41; (with_reducible refine Calls.mono (d2.out _) ?_); rintro e w8 ⟨rfl, hb8⟩))
          all_goals
            go_split_ands
            have q9 := hidIt (SD.after hput (.inl (hD.drew.next hb8)))
            clear hb8 e0 e1 e2 e3 hD
            go_wp2
            go_roundw
            case rel => exact ⟨j + 1, by go_num, by omega, q9.out⟩
            case measure => simp [intOf]; omega
        · have hjc : Hid (j = c) := by show _ = _; omega
          have q1 : Hid (Blk wr R 3 (rowA .i64 (Ot.dgs b s xs) n n)) := by
            have h1 := hD.row
            rw [hjc.out] at h1
            rwa [rowA_congr (kd := .i64) (f := Hf b s xs m c) (g := Ot.dgs b s xs) (n := n) (fun i hi => by have h2 := hf_all b s xs i (by rw [hn.out]; exact hi); rw [hmn.out, hcd.out] at h2; exact h2)] at h1
          have HB := hidIt hD.ps.bel
          clear hD
          go_wp2
          go_ret2
          exact ⟨⟨R, hwR.out, rfl, q1.out⟩, HB.out⟩
end Go.Proofs.YtegfbmekpmdcaaaDoor
