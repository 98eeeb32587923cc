import Derived.Test.YtfdbdhknamkipaaRdP
import Derived.Test.YtfdbdhknamkipaaEncR
import Derived.OwnWalk
namespace Go.Proofs.Ytfdbdhknamkipaa
open Go.RowKit
/-- what the reference's number returns -/
def numV (r : Option (Nat × Nat)) (pos : Nat) : Value := match r with
  | some (n, k) => .tuple #[.int .u64 n, .int .i64 (pos + k : Nat), .bool true]
  | none => .tuple #[.int .u64 0, .int .i64 0, .bool false]
theorem getD_drop (l : List Nat) (p j : Nat) : (l.drop p).getD j 0 = l.getD (p + j) 0 := by
  rw [List.getD_eq_getElem?_getD, List.getElem?_drop, ← List.getD_eq_getElem?_getD]
theorem dec_step {l : List Nat} {p t n : Nat} (h : p + t < l.length) (ht : t < n) : En.dec ((l.drop (p + t)).take (n - t)) = l.getD (p + t) 0 % 128 + 128 * En.dec ((l.drop (p + (t + 1))).take (n - (t + 1))) := by
  rw [List.drop_eq_getElem_cons h, show n - t = (n - (t + 1)) + 1 by omega, List.take_succ_cons]
  show l[p + t] % 128 + _ = _
  rw [List.getD_eq_getElem?_getD, List.getElem?_eq_getElem h]
  rfl
theorem wrapV (v b : Nat) : IntKind.u64.wrap (IntKind.u64.wrap (((v % 18446744073709551616 : Nat) : Int) * 128) + (b : Int) % 128) = (((b % 128 + 128 * v) % 18446744073709551616 : Nat) : Int) := by
  rw [IntKind.wrap_u64, IntKind.wrap_u64]; omega
theorem number_bytes {n : Nat} {w w' : World} {a : Option Addr} {cap : Nat} (h : w'.ownsRow w.heap.size 5 1 (.slice a (En.enc n).length cap) (En.enc n).length (vals (En.enc n))) : Bytes w' a (En.enc n) ∧ (En.enc n).length ≤ cap := by
  have hp := (En.enc_len n).1
  constructor
  · obtain ⟨a6, c6, hv6, hB6, -⟩ := owned_bytes h rfl
    cases hv6
    exact hB6
  · rcases h.2 with ⟨_, h0⟩ | ⟨g, c, cur, e, _, _, hc, _⟩
    · omega
    · simp only [Value.slice.injEq] at e
      omega
theorem take_eq_of {x l : List Nat} {n : Nat} (h1 : x.length = n) (h2 : n ≤ l.length) (h : ∀ j, j < n → x.getD j 0 = l.getD j 0) : x = l.take n := by
  apply List.ext_getElem?
  intro j
  by_cases hj : j < n
  · rw [List.getElem?_take_of_lt hj]
    have := h j hj
    rw [List.getD_eq_getElem?_getD, List.getD_eq_getElem?_getD, List.getElem?_eq_getElem (by omega), List.getElem?_eq_getElem (by omega)] at this
    rw [List.getElem?_eq_getElem (by omega), List.getElem?_eq_getElem (by omega)]
    simpa using this
  · rw [List.getElem?_eq_none (by omega), List.getElem?_eq_none (by rw [List.length_take]; omega)]
theorem take_ne_of {x l : List Nat} {n j : Nat} (hj : j < n) (h : x.getD j 0 ≠ l.getD j 0) : x ≠ l.take n := by
  intro e
  apply h
  rw [e, List.getD_eq_getElem?_getD, List.getElem?_take_of_lt hj, List.getD_eq_getElem?_getD]
set_option maxRecDepth 100000 in
set_option maxHeartbeats 4000000 in
theorem refnumber_any (a : Option Addr) (cap : Nat) (bs : List Nat) (pos : Nat) (hpos : pos ≤ bs.length) (hsz : bs.length ≤ 1000) (hcap : bs.length ≤ cap) (hlt : ∀ x ∈ bs, x < 256) (w : World) (h : Bytes w a bs) :
    Calls Try.prog 62 #[.slice a bs.length cap, .int .i64 pos] w fun e w' => e = .returned (numV (En.num (bs.drop pos)) pos) ∧ Below w.heap.size w w' := by
  have hlth := hidIt hlt
  have hB := hidIt h
  clear hlt h
  go_enter Try.func62, Try.ntmps62
  go_wp2_with (fail)
  go_loopw [7] (fun i wr => ∃ q : Nat, q ≤ 10 ∧ i = .int .i64 (q + 1 : Nat) ∧ Hid (∀ j, j < q → 128 ≤ bs.getD (pos + j) 0) ∧ wr = w) (fun i _ => 11 - (intOf i).toNat)
  case atStart => exact ⟨0, by omega, rfl, fun j hj => absurd hj (Nat.not_lt_zero _), rfl⟩
  case round =>
    obtain ⟨q, hq, rfl, hall, rfl⟩ := hrel
    by_cases hq10 : q < 10
    · by_cases hin : pos + q < bs.length
      · obtain ⟨b, off, rfl, hc⟩ := hB.out (pos + q) hin
        have tc : pos + q < cap := by omega
        by_cases hbig : 128 ≤ bs.getD (pos + q) 0
        · have hall2 : Hid (∀ j, j < q + 1 → 128 ≤ bs.getD (pos + j) 0) := fun j hj => by
            by_cases e : j = q
            · subst e; exact hbig
            · exact hall.out j (by omega)
          generalize bs.getD (pos + q) 0 = x at hc hbig
          have t1 : (x : Int) ≥ 128 := by omega
          have e1 : (pos : Int) + ((q : Int) + 1) - 1 = ((pos + q : Nat) : Int) := by omega
          have e2 : (pos : Int) + ((q : Int) + 1) ≤ (bs.length : Int) := by omega
          have e3 : (q : Int) + 1 ≤ 10 := by omega
          clear hall
          go_wp2_with (fail)
          go_roundw
          case rel => exact ⟨q + 1, by omega, by go_num, hall2, trivial⟩
          case measure => simp [intOf]; omega
        · have hx : bs.getD (pos + q) 0 < 128 := by omega
          have hxh := hidIt hx
          have hno : Hid (En.enc (En.dec ((bs.drop (pos + 0)).take (q + 1 - 0)) % 18446744073709551616) ≠ (bs.drop pos).take (q + 1) → En.num (bs.drop pos) = none) := fun he => En.num_no (n := q + 1) (fun x hx => hlth.out x (List.mem_of_mem_drop hx)) (by omega) (fun j hj => by rw [getD_drop]; exact hall.out j (by omega)) (by rw [getD_drop]; exact hxh.out) he
          have hyes : Hid (En.enc (En.dec ((bs.drop (pos + 0)).take (q + 1 - 0)) % 18446744073709551616) = (bs.drop pos).take (q + 1) → En.num (bs.drop pos) = some (En.dec ((bs.drop (pos + 0)).take (q + 1 - 0)) % 18446744073709551616, q + 1)) := fun he => En.num_yes (Nat.mod_lt _ (by decide)) he (by rw [List.length_drop]; omega)
          generalize hxx : bs.getD (pos + q) 0 = x at hc hx
          have t1 : ¬ (x : Int) ≥ 128 := by omega
          have e1 : (pos : Int) + ((q : Int) + 1) - 1 = ((pos + q : Nat) : Int) := by omega
          have e2 : (pos : Int) + ((q : Int) + 1) ≤ (bs.length : Int) := by omega
          have e3 : (q : Int) + 1 ≤ 10 := by omega
          clear hall
          go_wp2_with (fail)
          go_loopw [8, 9] (fun v i wr2 => ∃ (t : Nat) (z : Int) (V : Nat), t ≤ q + 1 ∧ i = .int .i64 z ∧ v = .int .u64 (V : Int) ∧ Hid (V = En.dec ((bs.drop (pos + t)).take (q + 1 - t)) % 18446744073709551616) ∧ z = (t : Int) - 1 ∧ wr2 = wr) (fun _ i _ => (intOf i + 1).toNat)
          case atStart => exact ⟨q + 1, q, 0, by omega, by go_num, rfl, by show _ = _; rw [Nat.sub_self, List.take_zero]; rfl, by omega, rfl⟩
          case round =>
            obtain ⟨t, z, V, ht, rfl, rfl, hV, hz, rfl⟩ := hrel
            clear e1 e2 e3 t1
            by_cases ht0 : 0 < t
            · obtain ⟨t, rfl⟩ : ∃ t', t = t' + 1 := ⟨t - 1, by omega⟩
              obtain rfl : z = (t : Int) := by omega
              clear hz
              have hit : pos + t < bs.length := by omega
              obtain ⟨b2, off2, hbb, hc2⟩ := hB.out (pos + t) hit
              cases hbb
              have hd := hidIt (dec_step (l := bs) (p := pos) (t := t) (n := q + 1) hit (by omega))
              generalize En.dec ((bs.drop (pos + (t + 1))).take (q + 1 - (t + 1))) = v at hd hV
              have hy : bs.getD (pos + t) 0 < 256 := by
                rw [List.getD_eq_getElem?_getD, List.getElem?_eq_getElem hit]; exact hlth.out _ (List.getElem_mem ..)
              generalize bs.getD (pos + t) 0 = y at hc2 hd hy
              have tc2 : pos + t < cap := by omega
              have wy : IntKind.u8.wrap ((y : Int) % 128) = ((y % 128 : Nat) : Int) := by rw [IntKind.wrap_u8]; omega
              have wy2 : IntKind.u64.wrap ((y % 128 : Nat) : Int) = ((y % 128 : Nat) : Int) := by rw [IntKind.wrap_u64]; omega
              clear hno hyes hc
              go_wp2_with (fail)
              go_roundw
              case rel => exact ⟨t, (t : Int) - 1, (y % 128 + 128 * v) % 18446744073709551616, by omega, rfl, by rw [hV.out, wrapV], by show _ = _; rw [hd.out], rfl, trivial⟩
              case measure => simp [intOf]
            · obtain rfl : t = 0 := by omega
              obtain rfl : z = -1 := by omega
              rw [← hV.out] at hno hyes
              have hV64 : V < 18446744073709551616 := by rw [hV.out]; exact Nat.mod_lt _ (by decide)
              clear hc hz hV
              go_wp2_with (fail)
              refine (refNumber_any V hV64 _).mono ?_
              rintro e w6 ⟨a6, c6, rfl, ho6, hb6⟩
              obtain ⟨hY6, hc6⟩ := number_bytes ho6
              have Y6 := hidIt hY6
              have B6 := hidIt (Bytes.below hB.out hb6)
              have H6 := hidIt hb6
              clear ho6 hb6 hY6
              by_cases hlen : (En.enc V).length = q + 1
              · have hg : Hid ((∀ j, j < q + 1 → (En.enc V).getD j 0 = bs.getD (pos + j) 0) → En.num (bs.drop pos) = some (V, q + 1)) := fun hh => hyes.out (take_eq_of hlen (by rw [List.length_drop]; omega) (fun j hj => by rw [getD_drop]; exact hh j hj))
                have hg2 : Hid (∀ j, j < q + 1 → (En.enc V).getD j 0 ≠ bs.getD (pos + j) 0 → En.num (bs.drop pos) = none) := fun j hj hne => hno.out (take_ne_of hj (by rw [getD_drop]; exact hne))
                clear hno hyes
                have hli : ((En.enc V).length : Int) = (q : Int) + 1 := by omega
                rw [hlen] at hc6 ⊢
                go_wp2_with (fail)
                go_loopw [11] (fun i wr3 => ∃ j : Nat, j ≤ q + 1 ∧ i = .int .i64 j ∧ Hid (∀ i, i < j → (En.enc V).getD i 0 = bs.getD (pos + i) 0) ∧ Hid (Bytes wr3 a6 (En.enc V)) ∧ Hid (Bytes wr3 (some ⟨b, off, none⟩) bs) ∧ Hid (Below wr.heap.size wr wr3)) (fun i _ => q + 1 - (intOf i).toNat)
                case atStart => exact ⟨0, by omega, rfl, fun i hi => absurd hi (Nat.not_lt_zero _), Y6, B6, H6⟩
                case round =>
                  obtain ⟨j, hj, rfl, hjs, hY, hB3, hb3⟩ := hrel
                  clear Y6 B6 H6
                  by_cases hjl : j < q + 1
                  · obtain ⟨g, o2, rfl, hcy⟩ := hY.out j (by omega)
                    obtain ⟨b3, off3, hbb, hcb⟩ := hB3.out (pos + j) (by omega)
                    cases hbb
                    have tc3 : pos + j < cap := by omega
                    have tc4 : j < c6 := by omega
                    by_cases huy : (En.enc V).getD j 0 = bs.getD (pos + j) 0
                    · have hjs2 : Hid (∀ i, i < j + 1 → (En.enc V).getD i 0 = bs.getD (pos + i) 0) := fun i hi => by
                        by_cases e : i = j
                        · subst e; exact huy
                        · exact hjs.out i (by omega)
                      rw [huy] at hcy
                      generalize bs.getD (pos + j) 0 = y at hcy hcb
                      clear hjs huy
                      go_wp2_with (fail)
                      go_quiet (fail)
                      have hY4 : Hid (Bytes (wr.drewN nq) (some ⟨g, o2, none⟩) (En.enc V)) := Bytes.below hY.out (below_drewN (Below.refl _ _) nq)
                      have hB4 : Hid (Bytes (wr.drewN nq) (some ⟨b, off, none⟩) bs) := Bytes.below hB3.out (below_drewN (Below.refl _ _) nq)
                      have hb4 := hidIt (below_drewN hb3.out nq)
                      clear hY hB3 hb3 hcy hcb
                      go_wp2_with (fail)
                      go_roundw
                      case rel => exact ⟨j + 1, by omega, by go_num, hjs2, hY4, hB4, hb4⟩
                      case measure => simp [intOf]; omega
                    · have hn := hidIt (hg2.out j hjl huy)
                      generalize (En.enc V).getD j 0 = u at hcy huy
                      generalize bs.getD (pos + j) 0 = y at hcb huy
                      have hne : ¬ (u : Int) = (y : Int) := by omega
                      clear hjs hg hg2
                      go_wp2_with (fail)
                      go_quiet (fail)
                      have hb4 := hidIt (below_drewN hb3.out nq)
                      clear hY hB3 hb3 hcy hcb
                      go_wp2_with (fail)
                      go_ret3
                      rw [hn.out]
                      exact ⟨rfl, hb4.out⟩
                  · obtain rfl : j = q + 1 := by omega
                    have hn := hidIt (hg.out hjs.out)
                    clear hjs hg hg2 hY hB3
                    go_wp2_with (fail)
                    go_ret3
                    rw [hn.out]
                    exact ⟨by simp [numV], hb3.out⟩
              · have hn := hidIt (hno.out fun e => hlen (by rw [e, List.length_take, List.length_drop]; omega))
                have hli : ¬ ((En.enc V).length : Int) = (q : Int) + 1 := by omega
                clear hno hyes Y6 B6
                go_wp2_with (fail)
                go_ret3
                rw [hn.out]
                exact ⟨rfl, H6.out⟩
      · have hn := hidIt (En.num_none (l := bs.drop pos) (fun j h1 h2 => by rw [getD_drop]; rw [List.length_drop] at h2; exact hall.out j (by omega)))
        have e2 : ¬ (pos : Int) + ((q : Int) + 1) ≤ (bs.length : Int) := by omega
        have e3 : (q : Int) + 1 ≤ 10 := by omega
        clear hall hB
        go_wp2_with (fail)
        go_ret3
        rw [hn.out]
        exact ⟨rfl, Below.refl _ _⟩
    · obtain rfl : q = 10 := by omega
      have hn := hidIt (En.num_none (l := bs.drop pos) (fun j h1 h2 => by rw [getD_drop]; exact hall.out j (by omega)))
      clear hall hB
      go_wp2_with (fail)
      go_ret3
      rw [hn.out]
      exact ⟨rfl, Below.refl _ _⟩
end Go.Proofs.Ytfdbdhknamkipaa
