import Derived.Test.YtegfbmekpmdcaaaDoorOn2
namespace Go.Proofs.YtegfbmekpmdcaaaDoor
open Go.RowKit
theorem valid_ok (b s : Nat) (ho : Ot.okB b s = true) (w : World) :
    Calls Tryd.prog 17 #[.agg #[.int .i64 (b : Int), .int .i64 (s : Int)]] w fun e w' => e = .returned (.bool true) ∧ Below w.heap.size w w' := by
  have := valid_any (b : Int) (s : Int) w
  rwa [okZ_nat, ho] at this
theorem valid_no (b s : Int) (ho : okZ b s = false) (w : World) :
    Calls Tryd.prog 17 #[.agg #[.int .i64 b, .int .i64 s]] w fun e w' => e = .returned (.bool false) ∧ Below w.heap.size w w' := by
  have := valid_any b s w
  rwa [ho] at this
set_option maxRecDepth 100000 in
theorem chains_ok (b s : Nat) (ho : Ot.okB b s = true) (w : World) :
    Calls Tryd.prog 18 #[.agg #[.int .i64 (b : Int), .int .i64 (s : Int)]] w fun e w' => e = .returned (.int .i64 (Ot.tot b s : Int)) ∧ Below w.heap.size w w' := by
  have hm := Ot.mn_bd b s ho
  have hc := Ot.cd_bd b s ho
  have d1 : Hid (∀ W, Calls Tryd.prog 40 #[.agg #[.int .i64 (b : Int), .int .i64 (s : Int)]] W fun e w' => e = .returned (.int .i64 (Ot.mn b s : Int)) ∧ Below W.heap.size W w') := fun W => digits_fn b s ho W
  have d2 : Hid (∀ W, Calls Tryd.prog 42 #[.agg #[.int .i64 (b : Int), .int .i64 (s : Int)]] W fun e w' => e = .returned (.int .i64 (Ot.cd b s : Int)) ∧ Below W.heap.size W w') := fun W => checks_any b s ho W
  obtain ⟨c, hcd⟩ : ∃ c, Hid (Ot.cd b s = c) := ⟨_, rfl⟩
  obtain ⟨m, hmn⟩ : ∃ m, Hid (Ot.mn b s = m) := ⟨_, rfl⟩
  obtain ⟨q, hq⟩ : ∃ q, Hid (m + c = q) := ⟨_, rfl⟩
  have htq : Hid (Ot.tot b s = q) := by show _ = _; unfold Ot.tot; rw [hmn.out, hcd.out, hq.out]
  rw [hcd.out] at hc d2
  rw [hmn.out] at hm d1
  rw [htq.out]
  have hadd : (m : Int) + (c : Int) = (q : Int) := by rw [← hq.out]; push_cast; rfl
  have hwr : IntKind.i64.wrap (q : Int) = (q : Int) := IntWalk.i64_in _ (by have := hq.out; omega)
  have p0 : PS w w.heap.size (b : Int) (s : Int) (w.alloc (.cells #[.int .i64 (b : Int), .int .i64 (s : Int)] 25)) := ps_new _ _ _ _
  clear hm hc hmn hcd hq htq
  go_enter Tryd.func18, Tryd.ntmps18
  go_wp2_with (fail)
  refine (valid_ok b s ho _).mono ?_
  rintro e w2 ⟨rfl, hb2⟩
  have p2 := p0.next hb2
  obtain ⟨G, hG⟩ : ∃ G, Hid (w.heap.size = G) := ⟨_, rfl⟩
  rw [hG.out] at p2
  try rw [hG.out]
  have e0 := p2.c0
  have e1 := p2.c1
  clear hb2 p0 ho
  go_wp2_with (fail)
  go_region_held3 (fun W' => PS w G (b : Int) (s : Int) W' ∧ W'.cell? ⟨G, 0, none⟩ = some (.int .i64 (b : Int)) ∧ W'.cell? ⟨G, 1, none⟩ = some (.int .i64 (s : Int)))
    (first
      | exact PS.all (by assumption)
      | (go_split_ands; exact PS.all (by assumption))
      | (go_split_ands; exact PS.all (PS.drew (by assumption)))
      | (go_split_ands; exact PS.all (PS.behind (by assumption) (by assumption))))
    (first
      | (go_at_call 40; (with_reducible refine Calls.mono (d1.out _) ?_); rintro e w7 ⟨rfl, hb7⟩)
      | (go_at_call 42; (with_reducible refine Calls.mono (d2.out _) ?_); rintro e w8 ⟨rfl, hb8⟩))
  go_split_ands
  have hS : PS w G (b : Int) (s : Int) w8 := by assumption
  have HB := hidIt hS.bel
  clear hS d1 d2 p2 e0 e1 hb7 hb8 hadd hwr
  go_wp2_with (fail)
  go_ret
  exact ⟨rfl, HB.out⟩
theorem chains_no (b s : Int) (ho : okZ b s = false) (w : World) :
    Calls Tryd.prog 18 #[.agg #[.int .i64 b, .int .i64 s]] w fun e w' => e = .returned (.int .i64 0) ∧ Below w.heap.size w w' := by
  have p0 : PS w w.heap.size b s (w.alloc (.cells #[.int .i64 b, .int .i64 s] 25)) := ps_new _ _ _ _
  go_enter Tryd.func18, Tryd.ntmps18
  go_wp2_with (fail)
  refine (valid_no b s ho _).mono ?_
  rintro e w2 ⟨rfl, hb2⟩
  have p2 := hidIt (p0.next hb2).bel
  clear hb2 p0
  go_wp2_with (fail)
  go_ret
  exact ⟨rfl, p2.out⟩
theorem tag_txSecret : ofStr ⟨#[115, 101, 99, 114, 101, 116]⟩ = Ot.txSecret := by decide +kernel
theorem tag_txChain : ofStr ⟨#[99, 104, 97, 105, 110]⟩ = Ot.txChain := by decide +kernel
/-- a fresh row of bytes -/
def Fresh (w : World) (e : Ending) (w' : World) (xs : List Nat) : Prop := ∃ a cap, e = .returned (.slice a xs.length cap) ∧ w'.ownsRow w.heap.size 5 1 (.slice a xs.length cap) xs.length (vals xs)
set_option maxRecDepth 100000 in
theorem labelled_any (t : ByteArray) (xs : List Nat) (hx : Hid (ofStr t = xs)) (hlen : xs.length ≤ 1000) (c : Nat) (hc : c < 9223372036854775808) (w : World) :
    Calls Tryd.prog 47 #[.string t, .int .i64 (c : Int)] w fun e w' => Fresh w e w' (xs ++ En.enc c) ∧ Below w.heap.size w w' := by
  obtain ⟨cap, w1, hcv, hby, hb1, hc1, hlt1⟩ := conv_to t w
  rw [hx.out] at hby
  have hsz : Hid (t.size = xs.length) := by show _ = _; rw [← hx.out, ofStr_len]
  rw [hsz.out] at hcv hc1
  go_enter Tryd.func47, Tryd.ntmps47
  go_wp2_with (fail)
  refine (appendUint_any _ cap c xs (by omega) (by omega) _ hby (fun h => by cases h)).mono ?_
  rintro e w2 ⟨a2, cap2, rfl, hown, hb2⟩
  have HB := hidIt (below_then hb1 hb2)
  have hown2 := hidIt hown
  have h12 := hidIt hb1.size
  clear hb1 hb2 hcv hby hown
  go_wp2_with (fail)
  go_ret
  exact ⟨⟨a2, cap2, by rw [List.length_append]; rfl, ⟨hown2.out.1, hown2.out.2.imp id fun ⟨g, cap, cur, hv, hg, r⟩ => ⟨g, cap, cur, hv, Nat.le_trans h12.out hg, r⟩⟩⟩, HB.out⟩
end Go.Proofs.YtegfbmekpmdcaaaDoor
