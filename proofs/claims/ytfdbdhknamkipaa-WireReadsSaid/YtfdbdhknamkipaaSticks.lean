import Derived.Test.YtfdbdhknamkipaaEncd
import Derived.Deep.RegionHeld3
import Derived.Orders
import Derived.OrdersHeld
namespace Go.Proofs.Ytfdbdhknamkipaa
open Go.RowKit
/-- the state of a reader after k reads -/
def rdAll (bs : List Nat) (V : Nat → RV) : Nat → Nat × Nat × Nat
  | 0 => (0, 0, 0)
  | k + 1 => (rstep bs (V k).kind (V k).most (rdAll bs V k).1 (rdAll bs V k).2.1 (rdAll bs V k).2.2).2
/-- the state of a reader -/
def RDt (w : World) (R : Nat) (a : Option Addr) (cap : Nat) (bs : List Nat) (q : Nat × Nat × Nat) : Prop := RD w R a cap bs q.1 q.2.1 q.2.2
/-- the state behind Fail -/
def failed (q : Nat × Nat × Nat) : Nat × Nat × Nat := if q.2.2 = 0 then (q.2.1, q.2.1, 3) else q
theorem failed_ne (q : Nat × Nat × Nat) : (failed q).2.2 ≠ 0 := by
  unfold failed
  split
  · simp
  · assumption
theorem fail_any (R : Nat) (a : Option Addr) (cap : Nat) (bs : List Nat) (q : Nat × Nat × Nat) (w : World) (h : RDt w R a cap bs q) :
    Calls Try.prog 24 #[.pointer (some ⟨R, 0, none⟩)] w fun e w' => e = .returned (.tuple #[]) ∧ RDt w' R a cap bs (failed q) ∧ w.grownBy w' (some R) := by
  obtain ⟨p, l, er⟩ := q
  by_cases he : er = 0
  · subst he
    exact fail_ok R a cap bs p l w h
  · have e : failed (p, l, er) = (p, l, er) := by unfold failed; rw [if_neg he]
    rw [e]
    exact (fail_err R a cap bs p l er he w h).mono fun e w' ⟨h1, h2⟩ => by subst h2; exact ⟨h1, h, g_refl _ _⟩
theorem getk_any (R : Nat) (a : Option Addr) (cap : Nat) (bs : List Nat) (V : Nat → RV) (k : Nat) (hk : VK (V k)) (hsz : bs.length ≤ 140737488355328) (hb : ∀ x ∈ bs, x < 256) (w : World) (h : RDt w R a cap bs (rdAll bs V k)) :
    Calls Try.prog 16 #[.pointer (some ⟨R, 0, none⟩), .int .i64 (V k).kind, .int .i64 (V k).most] w fun e w' => e = .returned (rstep bs (V k).kind (V k).most (rdAll bs V k).1 (rdAll bs V k).2.1 (rdAll bs V k).2.2).1.val ∧ RDt w' R a cap bs (rdAll bs V (k + 1)) ∧ w.grownBy w' (some R) :=
  get_any R a cap bs _ _ _ _ _ hk.m1 hk.m2 hsz hb w h
theorem gete_any (R : Nat) (a : Option Addr) (cap : Nat) (bs : List Nat) (kind most : Int) (q : Nat × Nat × Nat) (he : q.2.2 ≠ 0) (m1 : -9223372036854775808 ≤ most) (m2 : most ≤ 9223372036854775807) (hsz : bs.length ≤ 140737488355328) (hb : ∀ x ∈ bs, x < 256) (w : World) (h : RDt w R a cap bs q) :
    Calls Try.prog 16 #[.pointer (some ⟨R, 0, none⟩), .int .i64 kind, .int .i64 most] w fun e w' => e = .returned (.agg #[.int .i64 kind, .int .u64 0, .int .i64 0, .bool false, .string ByteArray.empty, .int .i64 most]) ∧ RDt w' R a cap bs q ∧ w.grownBy w' (some R) := by
  have := get_any R a cap bs q.1 q.2.1 q.2.2 kind most m1 m2 hsz hb w h
  rw [rstep_err he] at this
  exact this
theorem leftt_any (R : Nat) (a : Option Addr) (cap : Nat) (bs : List Nat) (q : Nat × Nat × Nat) (w : World) (h : RDt w R a cap bs q) :
    Calls Try.prog 18 #[.pointer (some ⟨R, 0, none⟩)] w fun e w' => e = .returned (.int .i64 ((bs.length - q.1 : Nat) : Int)) ∧ ∃ m, w' = w.drewN m :=
  left_any R a cap bs _ _ _ w h
theorem endt_any (R : Nat) (a : Option Addr) (cap : Nat) (bs : List Nat) (q : Nat × Nat × Nat) (he : q.2.2 ≠ 0) (w : World) (h : RDt w R a cap bs q) :
    Calls Try.prog 19 #[.pointer (some ⟨R, 0, none⟩)] w fun e w' => e = .returned (.tuple #[.int .i64 q.1, .int .i64 q.2.2]) ∧ ∃ m, w' = w.drewN m :=
  rEnd_err R a cap bs _ _ _ w h he
section
variable {P : Program} {ops : Array Oper} {md : Region.Mode} {Q : Exit → Act → World → Prop} {S : World → Prop} {w : World}
/-- taking one operation first, its destination said by the caller -/
theorem wpAnyH_take_at {i : Nat} {oi : Oper} (d : Option Tmp) (v : Value) {fuel : Nat} {listed : Array Bool} {a : Act} (hi : ops[i]? = some oi) (hd : oi.dst = d)
    (hs : Region.noSelect ops = true) (hf : Region.free md ops listed i = true) (hr : (Region.ready md ops listed).contains i = true)
    (hQ : ∀ c a w, Q (.panic c) (a.put d v) w → Q (.panic c) a w) (hy : YieldsIf P ops S oi v a) (hS : S w)
    (h : wpAnyH P md ops Q S fuel (listed.setIfInBounds i true) (a.put d v) w) : wpAnyH P md ops Q S (fuel + 1) listed a w := by
  subst hd
  exact wpAnyH_take hi hs hf hr hQ hy hS h
/-- one operation alone may come up: it is carried out, and S is shown anew -/
theorem wpAnyH_only {i : Nat} {oi : Oper} {fuel : Nat} {listed : Array Bool} {a : Act} (hr : Region.ready md ops listed = [i]) (hi : ops[i]? = some oi) (hw : Region.wanted oi (yielded ops a.tmps) = true)
    (h : ∀ K : Act → World → Prop, Hid (∀ a' w', S w' → wpAnyH P md ops Q S fuel (listed.setIfInBounds i true) a' w' → K a' w') → Oper.wp P oi a w K Q) : wpAnyH P md ops Q S (fuel + 1) listed a w := by
  refine wpAnyH_all hr (by simp) (fun j hj => ?_)
  obtain rfl : j = i := by simpa using hj
  refine wpOp_step hi (fun K hK => ?_)
  rw [if_pos hw]
  exact h K (show Hid _ from fun a' w' h1 h2 => hK a' w' ⟨h1, h2⟩)
/-- two operations may come up -/
theorem wpAnyH_two {i j : Nat} {oi oj : Oper} {fuel : Nat} {listed : Array Bool} {a : Act} (hr : Region.ready md ops listed = [i, j]) (hi : ops[i]? = some oi) (hj : ops[j]? = some oj) (hwi : Region.wanted oi (yielded ops a.tmps) = true) (hwj : Region.wanted oj (yielded ops a.tmps) = true)
    (h1 : ∀ K : Act → World → Prop, Hid (∀ a' w', S w' → wpAnyH P md ops Q S fuel (listed.setIfInBounds i true) a' w' → K a' w') → Oper.wp P oi a w K Q)
    (h2 : ∀ K : Act → World → Prop, Hid (∀ a' w', S w' → wpAnyH P md ops Q S fuel (listed.setIfInBounds j true) a' w' → K a' w') → Oper.wp P oj a w K Q) : wpAnyH P md ops Q S (fuel + 1) listed a w := by
  refine wpAnyH_all hr (by simp) (fun k hk => ?_)
  rcases List.mem_cons.1 hk with rfl | hk
  · refine wpOp_step hi (fun K hK => ?_)
    rw [if_pos hwi]
    exact h1 K (show Hid _ from fun a' w' h1 h2 => hK a' w' ⟨h1, h2⟩)
  · obtain rfl : k = j := by simpa using hk
    refine wpOp_step hj (fun K hK => ?_)
    rw [if_pos hwj]
    exact h2 K (show Hid _ from fun a' w' h1 h2 => hK a' w' ⟨h1, h2⟩)
end
/-- a reader, and the two cells that say what is read, in a region -/
structure GSt (w : World) (R : Nat) (ra : Option Addr) (rc : Nat) (bs : List Nat) (q : Nat × Nat × Nat) (b o : Nat) (kd ms : Int) (W : World) : Prop where
  rd : RDt W R ra rc bs q
  bel : Below w.heap.size w W
  c0 : W.cell? ⟨b, o, none⟩ = some (.int .i64 kd)
  c5 : W.cell? ⟨b, o + 5, none⟩ = some (.int .i64 ms)
section
variable {w W : World} {R : Nat} {ra : Option Addr} {rc : Nat} {bs : List Nat} {q : Nat × Nat × Nat} {b o : Nat} {kd ms : Int}
theorem GSt.all (h : GSt w R ra rc bs q b o kd ms W) : GSt w R ra rc bs q b o kd ms W ∧ W.cell? ⟨b, o, none⟩ = some (.int .i64 kd) ∧ W.cell? ⟨b, o + 5, none⟩ = some (.int .i64 ms) := ⟨h, h.c0, h.c5⟩
theorem GSt.drew (h : GSt w R ra rc bs q b o kd ms W) : GSt w R ra rc bs q b o kd ms W.drew := ⟨RD.drewN (m := 1) h.rd, below_drewN h.bel 1, h.c0, h.c5⟩
theorem GSt.alloc (h : GSt w R ra rc bs q b o kd ms W) (x : Obj) : GSt w R ra rc bs q b o kd ms (W.alloc x) :=
  ⟨RD.alloc h.rd x, h.bel.alloc h.bel.size x, (((Below.refl W.heap.size W).alloc (Nat.le_refl _) x).cell (p := ⟨b, o, none⟩) (bytes_lt h.c0)).trans h.c0, (((Below.refl W.heap.size W).alloc (Nat.le_refl _) x).cell (p := ⟨b, o + 5, none⟩) (bytes_lt h.c5)).trans h.c5⟩
theorem GSt.rowNew {q' : Nat × Nat × Nat} {W' : World} {A : Nat} (h0 : GSt w R ra rc bs q b o kd ms W) (h : GSt w R ra rc bs q' b o kd ms W') (hA : W.heap.size ≤ A) (cs : Array Value) : GSt w R ra rc bs q' b o kd ms (W'.setRow A cs) := by
  have hR := RD.lt h0.rd
  have hb := bytes_lt h0.c0
  have hbk : ∀ k, k < W.heap.size → (W'.setRow A cs).heap[k]? = W'.heap[k]? := fun k hk => setRow_other _ _ k _ (by omega)
  refine ⟨⟨(hbk R hR).trans h.rd.row, fun j hj => ?_, h.rd.ne, h.rd.le, h.rd.lastle, h.rd.capge, h.rd.capm⟩, h.bel.trans ⟨rfl, rfl, rfl, by simp, fun k hk => hbk k (Nat.lt_of_lt_of_le hk h0.bel.size)⟩, (World.cell?_of_block (a := ⟨b, o, none⟩) (hbk b hb)).trans h.c0, (World.cell?_of_block (a := ⟨b, o + 5, none⟩) (hbk b hb)).trans h.c5⟩
  obtain ⟨b1, off1, h2, h3⟩ := h.rd.bytes j hj
  obtain ⟨b2, off2, h2', h3'⟩ := h0.rd.bytes j hj
  have hb2 := bytes_lt h3'
  rw [h2] at h2'
  simp only [Option.some.injEq, Addr.mk.injEq] at h2'
  exact ⟨b1, off1, h2, (World.cell?_of_block (a := ⟨b1, off1 + j, none⟩) (hbk b1 (by rw [h2'.1]; exact hb2))).trans h3⟩
theorem GSt.get {q' : Nat × Nat × Nat} {W' : World} (h : GSt w R ra rc bs q b o kd ms W) (hr : RDt W' R ra rc bs q') (hg : W.grownBy W' (some R)) (hbR : b ≠ R) (hwR : w.heap.size ≤ R) : GSt w R ra rc bs q' b o kd ms W' :=
  ⟨hr, h.bel.trans (below_g hg hwR (show R < W.heap.size from RD.lt h.rd)), hg.cell h.c0 (fun e => by cases e; exact hbR rfl), hg.cell h.c5 (fun e => by cases e; exact hbR rfl)⟩
end
set_option maxRecDepth 100000 in
set_option maxHeartbeats 4000000 in
theorem wsticks_walk (a a1 a2 : Option Addr) (len cap len1 cap1 len2 cap2 : Nat) (bs : List Nat) (V1 V2 : Nat → RV) (w : World) (h0 : RowB w a len cap bs) (h1 : VR w a1 len1 V1) (hc1 : len1 ≤ cap1) (h2 : VR w a2 len2 V2) (hc2 : len2 ≤ cap2) :
    Calls Try.prog 7 #[.slice a len cap, .slice a1 len1 cap1, .slice a2 len2 cap2] w fun e w' => e = .returned (.bool true) ∧ Below w.heap.size w w' := by
  obtain ⟨hB, rfl, hnil, hlt, hcap, -⟩ := h0
  have BB := hidIt hB
  have V1h := hidIt h1
  have V2h := hidIt h2
  have hlth := hidIt hlt
  have hnilh := hidIt hnil
  clear hB h1 h2 hlt hnil
  by_cases t1 : (bs.length : Int) > 1000
  · go_enter Try.func7, Try.ntmps7
    go_wp2_with (fail)
    refine (awake_any _).mono ?_
    rintro e w1 ⟨rfl, hb1⟩
    have H1 := hidIt hb1
    clear hb1
    go_wp2_with (fail)
    go_ret
    exact ⟨rfl, H1.out⟩
  by_cases t2 : (len1 : Int) > 40
  · go_enter Try.func7, Try.ntmps7
    go_wp2_with (fail)
    refine (awake_any _).mono ?_
    rintro e w1 ⟨rfl, hb1⟩
    have H1 := hidIt hb1
    clear hb1
    go_wp2_with (fail)
    go_ret
    exact ⟨rfl, H1.out⟩
  by_cases t3 : (len2 : Int) > 40
  · go_enter Try.func7, Try.ntmps7
    go_wp2_with (fail)
    refine (awake_any _).mono ?_
    rintro e w1 ⟨rfl, hb1⟩
    have H1 := hidIt hb1
    clear hb1
    go_wp2_with (fail)
    go_ret
    exact ⟨rfl, H1.out⟩
  · have hsz : bs.length ≤ 140737488355328 := by omega
    have hl1 : len1 ≤ 40 := by omega
    have hl2 : len2 ≤ 40 := by omega
    go_enter Try.func7, Try.ntmps7
    go_wp2_with (fail)
    refine (awake_any _).mono ?_
    rintro e w1 ⟨rfl, hb1⟩
    have H1 := hidIt hb1
    clear hb1
    go_wp2_with (fail)
    refine (newReader_any a cap bs hsz _ (BB.out.below H1.out) hnilh.out).mono ?_
    rintro e w2 ⟨R, ra, rc, rfl, hR, hb2, hRw, -⟩
    have R2 : Hid (RDt w2 R ra rc bs (rdAll bs V1 0)) := hR
    have hRw2 : Hid (w.heap.size ≤ R) := by show _ ≤ _; have := H1.out.size; omega
    have H2 := hidIt (below_then H1.out hb2)
    clear hR hb2 hRw H1 hnilh
    go_wp2_with (fail)
    go_loopw [8] (fun i wr => ∃ k : Nat, k ≤ len1 ∧ i = .int .i64 k ∧ Hid (RDt wr R ra rc bs (rdAll bs V1 k)) ∧ Hid (Below w.heap.size w wr)) (fun i _ => len1 - (intOf i).toNat)
    case atStart => exact ⟨0, by omega, rfl, R2, H2⟩
    case round =>
      obtain ⟨k, hk, rfl, hR, hb⟩ := hrel
      clear R2 H2
      by_cases hk2 : k < len1
      · obtain ⟨b, off, rfl, hr, -⟩ := (V1h.out.below hb.out).blk k hk2
        have hkk := hidIt (V1h.out.ok k hk2)
        have c0 : wr.cell? ⟨b, off + k * 6, none⟩ = some (.int .i64 (V1 k).kind) := hr 0 _ rfl
        have c5 : wr.cell? ⟨b, off + k * 6 + 5, none⟩ = some (.int .i64 (V1 k).most) := hr 5 _ rfl
        have gk : Hid (∀ W, RDt W R ra rc bs (rdAll bs V1 k) → Calls Try.prog 16 #[.pointer (some ⟨R, 0, none⟩), .int .i64 (V1 k).kind, .int .i64 (V1 k).most] W fun e w' => e = .returned (rstep bs (V1 k).kind (V1 k).most (rdAll bs V1 k).1 (rdAll bs V1 k).2.1 (rdAll bs V1 k).2.2).1.val ∧ RDt w' R ra rc bs (rdAll bs V1 (k + 1)) ∧ W.grownBy w' (some R)) := fun W hW => getk_any R ra rc bs V1 k hkk.out hsz hlth.out W hW
        generalize (rstep bs (V1 k).kind (V1 k).most (rdAll bs V1 k).1 (rdAll bs V1 k).2.1 (rdAll bs V1 k).2.2).1.val = vv at gk
        generalize (V1 k).kind = kd at gk c0
        generalize (V1 k).most = ms at gk c5
        have tt : k < cap1 := by omega
        clear hr
        go_wp2_with (fail)
        go_still_tail 11, (by kernel_rfl)
        repeat still_step
        change wpList _ _ _ _ _ wr.drew
        clear c0 c5
        go_wp2_with (fail)
        refine (gk.out _ (show RDt wr.drew R ra rc bs _ from RD.drewN (m := 1) hR.out)).mono ?_
        rintro e w3 ⟨rfl, hR3, hg3⟩
        have R3 := hidIt hR3
        have H3 : Hid (Below w.heap.size w w3) := (below_drewN hb.out 1).trans (below_g hg3 hRw2.out (show R < wr.heap.size from RD.lt hR.out))
        clear hR3 hg3 gk hR hb
        go_wp2_with (fail)
        go_roundw
        case rel => exact ⟨k + 1, by omega, by go_num, R3, H3⟩
        case measure => simp [intOf]; omega
      · obtain rfl : k = len1 := by omega
        go_wp2_with (fail)
        refine (fail_any R ra rc bs _ _ hR.out).mono ?_
        rintro e w3 ⟨rfl, hR3, hg3⟩
        have H3 : Hid (Below w.heap.size w w3) := hb.out.trans (below_g hg3 hRw2.out (show R < wr.heap.size from RD.lt hR.out))
        have hq3 := hidIt (failed_ne (rdAll bs V1 k))
        obtain ⟨q, hq⟩ : ∃ q, Hid (failed (rdAll bs V1 k) = q) := ⟨_, rfl⟩
        rw [hq.out] at hR3 hq3
        have R3 := hidIt hR3
        obtain ⟨⟨p, l, er⟩, hqq⟩ : ∃ q' : Nat × Nat × Nat, q' = q := ⟨_, rfl⟩
        rw [← hqq] at R3 hq3
        have hple : p ≤ bs.length := R3.out.le
        have her : Hid (er ≠ 0) := hq3.out
        clear hR3 hg3 hR hb hq hqq hq3
        have CL : Hid (∀ W, RDt W R ra rc bs (p, l, er) → Calls Try.prog 18 #[.pointer (some ⟨R, 0, none⟩)] W fun e w' => e = .returned (.int .i64 ((bs.length - p : Nat) : Int)) ∧ ∃ m, w' = W.drewN m) := fun W hW => leftt_any R ra rc bs (p, l, er) W hW
        have CE : Hid (∀ W, RDt W R ra rc bs (p, l, er) → Calls Try.prog 19 #[.pointer (some ⟨R, 0, none⟩)] W fun e w' => e = .returned (.tuple #[.int .i64 p, .int .i64 er]) ∧ ∃ m, w' = W.drewN m) := fun W hW => endt_any R ra rc bs (p, l, er) her.out W hW
        have CG : Hid (∀ kind most : Int, -9223372036854775808 ≤ most → most ≤ 9223372036854775807 → ∀ W, RDt W R ra rc bs (p, l, er) → Calls Try.prog 16 #[.pointer (some ⟨R, 0, none⟩), .int .i64 kind, .int .i64 most] W fun e w' => e = .returned (.agg #[.int .i64 kind, .int .u64 0, .int .i64 0, .bool false, .string ByteArray.empty, .int .i64 most]) ∧ RDt w' R ra rc bs (p, l, er) ∧ W.grownBy w' (some R)) := fun kind most m1 m2 W hW => gete_any R ra rc bs kind most (p, l, er) her.out m1 m2 hsz hlth.out W hW
        obtain ⟨lf, hlf, hlf2⟩ : ∃ lf : Nat, bs.length - p = lf ∧ (bs.length : Int) - (p : Int) = (lf : Int) := ⟨_, rfl, by omega⟩
        rw [hlf] at CL
        clear hlf
        go_wp2_with (fail)
        refine (CL.out _ R3.out).mono ?_
        rintro e w4 ⟨rfl, m4, rfl⟩
        have R4 : Hid (RDt (w3.drewN m4) R ra rc bs (p, l, er)) := RD.drewN R3.out
        have H4 := hidIt (below_drewN H3.out m4)
        generalize w3.drewN m4 = w4 at *
        clear R3 H3
        go_wp2_with (fail)
        refine (CE.out _ R4.out).mono ?_
        rintro e w5 ⟨rfl, m5, rfl⟩
        have R5 : Hid (RDt (w4.drewN m5) R ra rc bs (p, l, er)) := RD.drewN R4.out
        have H5 := hidIt (below_drewN H4.out m5)
        generalize w4.drewN m5 = w5 at *
        clear R4 H4
        go_wp2_with (fail)
        go_loopw [12, 13] (fun i _ wr => ∃ k : Nat, k ≤ len2 ∧ i = .int .i64 k ∧ Hid (RDt wr R ra rc bs (p, l, er)) ∧ Hid (Below w.heap.size w wr)) (fun i _ _ => len2 - (intOf i).toNat)
        case atStart => exact ⟨0, by omega, rfl, R5, H5⟩
        case round =>
          obtain ⟨j, hj, rfl, hR, hb⟩ := hrel
          clear R5 H5
          by_cases hj2 : j < len2
          · obtain ⟨b, off, rfl, hr, -⟩ := (V2h.out.below hb.out).blk j hj2
            have hbR : Hid (b ≠ R) := by
              obtain ⟨b', off', e1, -, hlt'⟩ := V2h.out.blk j hj2
              cases e1
              show _ ≠ _
              have := hRw2.out
              omega
            have hkk := V2h.out.ok j hj2
            have c0 : wr.cell? ⟨b, off + j * 6, none⟩ = some (.int .i64 (V2 j).kind) := hr 0 _ rfl
            have c5 : wr.cell? ⟨b, off + j * 6 + 5, none⟩ = some (.int .i64 (V2 j).most) := hr 5 _ rfl
            have gk := hidIt (CG.out (V2 j).kind (V2 j).most hkk.m1 hkk.m2)
            clear hkk
            generalize (V2 j).kind = kd at gk c0
            generalize (V2 j).most = ms at gk c5
            have tt : j < cap2 := by omega
            have G0 : GSt w R ra rc bs (p, l, er) b (off + j * 6) kd ms wr := ⟨hR.out, hb.out, c0, c5⟩
            clear hr hR hb c0 c5
            go_wp2_with (fail)
            refine wp_region_held_drew (S := (fun W : World => GSt w R ra rc bs (p, l, er) b (off + j * 6) kd ms W)) (by kernel_rfl) G0.drew (fun hHeld => ?_)
            refine wpAnyH_take_at (i := 0) (some 66) (.pointer (some ⟨R, 0, none⟩)) rfl rfl (by kernel_rfl) (by kernel_rfl) (by kernel_rfl) (fun _ _ _ h => h) (Or.inl ⟨by rfl, ?_⟩) hHeld ?_
            · (intro W hSw; clear hSw hHeld; go_simp)
            simp only [Act.put, List.setIfInBounds_toArray, List.set_cons_zero, List.set_cons_succ]
            refine wpAnyH_take_at (i := 1) (some 67) (.slice (some ⟨b, off, none⟩) len2 cap2) rfl rfl (by kernel_rfl) (by kernel_rfl) (by kernel_rfl) (fun _ _ _ h => h) (Or.inl ⟨by rfl, ?_⟩) hHeld ?_
            · (intro W hSw; clear hSw hHeld; go_simp)
            simp only [Act.put, List.setIfInBounds_toArray, List.set_cons_zero, List.set_cons_succ]
            refine wpAnyH_take_at (i := 2) (some 68) (.int .i64 (j : Int)) rfl rfl (by kernel_rfl) (by kernel_rfl) (by kernel_rfl) (fun _ _ _ h => h) (Or.inl ⟨by rfl, ?_⟩) hHeld ?_
            · (intro W hSw; clear hSw hHeld; go_simp)
            simp only [Act.put, List.setIfInBounds_toArray, List.set_cons_zero, List.set_cons_succ]
            refine wpAnyH_take_at (i := 3) (some 69) (.pointer (some ⟨b, off + j * 6, none⟩)) rfl rfl (by kernel_rfl) (by kernel_rfl) (by kernel_rfl) (fun _ _ _ h => h) (Or.inl ⟨by rfl, ?_⟩) hHeld ?_
            · (intro W hSw; clear hSw hHeld; go_simp)
            simp only [Act.put, List.setIfInBounds_toArray, List.set_cons_zero, List.set_cons_succ]
            refine wpAnyH_take_at (i := 4) (some 70) (.pointer (some ⟨b, off + j * 6, none⟩)) rfl rfl (by kernel_rfl) (by kernel_rfl) (by kernel_rfl) (fun _ _ _ h => h) (Or.inl ⟨by rfl, ?_⟩) hHeld ?_
            · (intro W hSw; clear hSw hHeld; go_simp)
            simp only [Act.put, List.setIfInBounds_toArray, List.set_cons_zero, List.set_cons_succ]
            refine wpAnyH_take_at (i := 5) (some 71) (.int .i64 kd) rfl rfl (by kernel_rfl) (by kernel_rfl) (by kernel_rfl) (fun _ _ _ h => h) (Or.inl ⟨by rfl, ?_⟩) hHeld ?_
            · (intro W hSw; have c0 := hSw.c0; have c5 := hSw.c5; clear hSw hHeld; go_simp)
            simp only [Act.put, List.setIfInBounds_toArray, List.set_cons_zero, List.set_cons_succ]
            refine wpAnyH_take_at (i := 6) (some 72) (.slice (some ⟨b, off, none⟩) len2 cap2) rfl rfl (by kernel_rfl) (by kernel_rfl) (by kernel_rfl) (fun _ _ _ h => h) (Or.inl ⟨by rfl, ?_⟩) hHeld ?_
            · (intro W hSw; clear hSw hHeld; go_simp)
            simp only [Act.put, List.setIfInBounds_toArray, List.set_cons_zero, List.set_cons_succ]
            refine wpAnyH_take_at (i := 7) (some 73) (.int .i64 (j : Int)) rfl rfl (by kernel_rfl) (by kernel_rfl) (by kernel_rfl) (fun _ _ _ h => h) (Or.inl ⟨by rfl, ?_⟩) hHeld ?_
            · (intro W hSw; clear hSw hHeld; go_simp)
            simp only [Act.put, List.setIfInBounds_toArray, List.set_cons_zero, List.set_cons_succ]
            refine wpAnyH_take_at (i := 8) (some 74) (.pointer (some ⟨b, off + j * 6, none⟩)) rfl rfl (by kernel_rfl) (by kernel_rfl) (by kernel_rfl) (fun _ _ _ h => h) (Or.inl ⟨by rfl, ?_⟩) hHeld ?_
            · (intro W hSw; clear hSw hHeld; go_simp)
            simp only [Act.put, List.setIfInBounds_toArray, List.set_cons_zero, List.set_cons_succ]
            refine wpAnyH_take_at (i := 9) (some 75) (.pointer (some ⟨b, off + j * 6 + 5, none⟩)) rfl rfl (by kernel_rfl) (by kernel_rfl) (by kernel_rfl) (fun _ _ _ h => h) (Or.inl ⟨by rfl, ?_⟩) hHeld ?_
            · (intro W hSw; clear hSw hHeld; go_simp)
            simp only [Act.put, List.setIfInBounds_toArray, List.set_cons_zero, List.set_cons_succ]
            refine wpAnyH_take_at (i := 10) (some 76) (.int .i64 ms) rfl rfl (by kernel_rfl) (by kernel_rfl) (by kernel_rfl) (fun _ _ _ h => h) (Or.inl ⟨by rfl, ?_⟩) hHeld ?_
            · (intro W hSw; have c0 := hSw.c0; have c5 := hSw.c5; clear hSw hHeld; go_simp)
            simp only [Act.put, List.setIfInBounds_toArray, List.set_cons_zero, List.set_cons_succ]
            refine wpAnyH_two (i := 11) (j := 12) (by kernel_rfl) rfl rfl rfl rfl (fun K hK => ?_) (fun K hK => ?_)
            · go_simp
              go_at_call 16
              refine (gk.out _ hHeld.rd).mono ?_
              rintro e w6 ⟨rfl, hR6, hg6⟩
              have G6 := GSt.get hHeld hR6 hg6 hbR.out hRw2.out
              refine hK.out _ _ G6 ?_
              clear hK K
              refine wpAnyH_only (i := 12) (by kernel_rfl) rfl rfl (fun K hK => ?_)
              go_simp
              refine hK.out _ _ (G6.alloc _) ?_
              clear hK K
              refine wpAnyH_only (i := 13) (by kernel_rfl) rfl rfl (fun K hK => ?_)
              refine wp_store_row 37 _ _ rfl _ #[.int .i64 kd, .int .u64 0, .int .i64 0, .bool false, .string ByteArray.empty, .int .i64 ms] rfl rfl 37 #[.int .i64 0, .int .u64 0, .int .i64 0, .bool false, .string ByteArray.empty, .int .i64 0] (heap_alloc_new w6 (.cells #[.int .i64 0, .int .u64 0, .int .i64 0, .bool false, .string ByteArray.empty, .int .i64 0] 37)) infoV6 rfl (by simp [Value.oneCell']) ?_
              have G9 := hidIt (GSt.rowNew G6 (G6.alloc (.cells #[.int .i64 0, .int .u64 0, .int .i64 0, .bool false, .string ByteArray.empty, .int .i64 0] 37)) (A := w6.heap.size) (Nat.le_refl _))
              have row9 := hidIt (setRow_heap _ _ _ #[.int .i64 kd, .int .u64 0, .int .i64 0, .bool false, .string ByteArray.empty, .int .i64 ms] _ _ (heap_alloc_new w6 (.cells #[.int .i64 0, .int .u64 0, .int .i64 0, .bool false, .string ByteArray.empty, .int .i64 0] 37)))
              refine hK.out _ _ (G9.out _) ?_
              clear hK K
              refine wpAnyH_done (by kernel_rfl) ?_ _
              have G9b := hidIt (G9.out (#[.int .i64 kd, .int .u64 0, .int .i64 0, .bool false, .string ByteArray.empty, .int .i64 ms]))
              obtain ⟨A, hA⟩ : ∃ A, Hid (w6.heap.size = A) := ⟨_, rfl⟩
              obtain ⟨W9, hW9⟩ : ∃ W9, Hid (((w6.alloc (.cells #[.int .i64 0, .int .u64 0, .int .i64 0, .bool false, .string ByteArray.empty, .int .i64 0] 37)).setRow w6.heap.size #[.int .i64 kd, .int .u64 0, .int .i64 0, .bool false, .string ByteArray.empty, .int .i64 ms]) = W9) := ⟨_, rfl⟩
              try rw [show (ByteArray.mk #[]) = ByteArray.empty from rfl]
              rw [hW9.out] at G9b row9 ⊢
              rw [hA.out] at row9 ⊢
              clear G9 hW9 hA hHeld
              have k1 : W9.cell? ⟨A, 1, none⟩ = some (.int .u64 0) := by rw [cell_of_row W9 A 1 _ _ _ row9.out]; rfl
              have k2 : W9.cell? ⟨A, 2, none⟩ = some (.int .i64 0) := by rw [cell_of_row W9 A 2 _ _ _ row9.out]; rfl
              have k3 : W9.cell? ⟨A, 3, none⟩ = some (.bool false) := by rw [cell_of_row W9 A 3 _ _ _ row9.out]; rfl
              have k4 : W9.cell? ⟨A, 4, none⟩ = some (.string ByteArray.empty) := by rw [cell_of_row W9 A 4 _ _ _ row9.out]; rfl
              have R9 : Hid (RDt W9 R ra rc bs (p, l, er)) := G9b.out.rd
              have H9 : Hid (Below w.heap.size w W9) := G9b.out.bel
              clear G9b row9 gk G0
              go_wp2_with (fail)
              refine (CL.out _ R9.out).mono ?_
              rintro e w8 ⟨rfl, m8, rfl⟩
              have R8 : Hid (RDt (W9.drewN m8) R ra rc bs (p, l, er)) := RD.drewN R9.out
              have H8 := hidIt (below_drewN H9.out m8)
              clear R9 H9 k1 k2 k3 k4
              generalize W9.drewN m8 = w8 at *
              go_wp2_with (fail)
              go_roundw
              case rel => exact ⟨j + 1, by omega, by go_num, R8, H8⟩
              case measure => simp [intOf]; omega
            · go_simp
              have G6 := hHeld.alloc (.cells #[.int .i64 0, .int .u64 0, .int .i64 0, .bool false, .string ByteArray.empty, .int .i64 0] 37)
              refine hK.out _ _ G6 ?_
              clear hK K
              refine wpAnyH_only (i := 11) (by kernel_rfl) rfl rfl (fun K hK => ?_)
              go_simp
              go_at_call 16
              refine (gk.out _ G6.rd).mono ?_
              rintro e w7 ⟨rfl, hR6, hg6⟩
              have G7 := GSt.get G6 hR6 hg6 hbR.out hRw2.out
              have hAR : wr.drew.heap.size ≠ R := by have := RD.lt hHeld.rd; omega
              have row7 : w7.heap[wr.heap.size]? = some (.cells #[.int .i64 0, .int .u64 0, .int .i64 0, .bool false, .string ByteArray.empty, .int .i64 0] 37 (0, 0)) := (hg6.block wr.drew.heap.size (by simp) (fun e => by cases e; exact hAR rfl)).trans (heap_alloc_new wr.drew (.cells #[.int .i64 0, .int .u64 0, .int .i64 0, .bool false, .string ByteArray.empty, .int .i64 0] 37))
              refine hK.out _ _ G7 ?_
              clear hK K
              refine wpAnyH_only (i := 13) (by kernel_rfl) rfl rfl (fun K hK => ?_)
              refine wp_store_row 37 _ _ rfl _ #[.int .i64 kd, .int .u64 0, .int .i64 0, .bool false, .string ByteArray.empty, .int .i64 ms] rfl rfl 37 #[.int .i64 0, .int .u64 0, .int .i64 0, .bool false, .string ByteArray.empty, .int .i64 0] row7 infoV6 rfl (by simp [Value.oneCell']) ?_
              have G9 := hidIt (GSt.rowNew hHeld G7 (A := wr.heap.size) (show wr.drew.heap.size ≤ wr.heap.size from Nat.le_refl _))
              have row9 := hidIt (setRow_heap _ _ _ #[.int .i64 kd, .int .u64 0, .int .i64 0, .bool false, .string ByteArray.empty, .int .i64 ms] _ _ row7)
              refine hK.out _ _ (G9.out _) ?_
              clear hK K
              refine wpAnyH_done (by kernel_rfl) ?_ _
              have G9b := hidIt (G9.out (#[.int .i64 kd, .int .u64 0, .int .i64 0, .bool false, .string ByteArray.empty, .int .i64 ms]))
              obtain ⟨A, hA⟩ : ∃ A, Hid (wr.heap.size = A) := ⟨_, rfl⟩
              obtain ⟨W9, hW9⟩ : ∃ W9, Hid ((w7.setRow wr.heap.size #[.int .i64 kd, .int .u64 0, .int .i64 0, .bool false, .string ByteArray.empty, .int .i64 ms]) = W9) := ⟨_, rfl⟩
              try rw [show (ByteArray.mk #[]) = ByteArray.empty from rfl]
              rw [hW9.out] at G9b row9 ⊢
              rw [hA.out] at row9 ⊢
              clear G9 hW9 hA hHeld
              have k1 : W9.cell? ⟨A, 1, none⟩ = some (.int .u64 0) := by rw [cell_of_row W9 A 1 _ _ _ row9.out]; rfl
              have k2 : W9.cell? ⟨A, 2, none⟩ = some (.int .i64 0) := by rw [cell_of_row W9 A 2 _ _ _ row9.out]; rfl
              have k3 : W9.cell? ⟨A, 3, none⟩ = some (.bool false) := by rw [cell_of_row W9 A 3 _ _ _ row9.out]; rfl
              have k4 : W9.cell? ⟨A, 4, none⟩ = some (.string ByteArray.empty) := by rw [cell_of_row W9 A 4 _ _ _ row9.out]; rfl
              have R9 : Hid (RDt W9 R ra rc bs (p, l, er)) := G9b.out.rd
              have H9 : Hid (Below w.heap.size w W9) := G9b.out.bel
              clear G9b row9 gk G0
              go_wp2_with (fail)
              refine (CL.out _ R9.out).mono ?_
              rintro e w8 ⟨rfl, m8, rfl⟩
              have R8 : Hid (RDt (W9.drewN m8) R ra rc bs (p, l, er)) := RD.drewN R9.out
              have H8 := hidIt (below_drewN H9.out m8)
              clear R9 H9 k1 k2 k3 k4
              generalize W9.drewN m8 = w8 at *
              go_wp2_with (fail)
              go_roundw
              case rel => exact ⟨j + 1, by omega, by go_num, R8, H8⟩
              case measure => simp [intOf]; omega
          · obtain rfl : j = len2 := by omega
            have hz : ((er : Int) != 0) = true := by simp; exact her.out
            go_wp2_with (fail)
            refine (CE.out _ hR.out).mono ?_
            rintro e w5 ⟨rfl, m5, rfl⟩
            have H9 := hidIt (below_drewN hb.out m5)
            clear hR hb CL CE CG
            go_wp2_with (fail)
            go_ret
            exact ⟨rfl, H9.out⟩
end Go.Proofs.Ytfdbdhknamkipaa
